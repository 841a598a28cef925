package cache

import (
	"cmp"
	"slices"

	"granary/api"
)

// Oldest: P9.7.
func (c *Cache) Oldest() (uint64, bool) {
	l := c.dirtyBlocks()
	if len(l) == 0 {
		return 0, false
	}
	return l[0].First, true
}

// Dirty: P9.7.
func (c *Cache) Dirty() []api.Dirty {
	var out []api.Dirty
	for _, x := range c.dirtyBlocks() {
		out = append(out, x.Dirty)
	}
	return out
}

// Held: P9.7.
func (c *Cache) Held() []int {
	if c.none() {
		return nil
	}
	var out []int
	for x := c.uses.newer; x != c.uses; x = x.newer {
		out = append(out, x.Block)
	}
	return out
}

// Hits: P9.7.
func (c *Cache) Hits() (int, int) {
	if c.none() {
		return 0, 0
	}
	return c.found, c.missed
}

// dirtyBlocks is the dirty blocks by rising First, then Block. They are taken from the ring, since a map has no order.
func (c *Cache) dirtyBlocks() []*block {
	if c.none() {
		return nil
	}
	var out []*block
	for x := c.uses.newer; x != c.uses; x = x.newer {
		if x.dirty {
			out = append(out, x)
		}
	}
	slices.SortFunc(out, func(x, y *block) int {
		return cmp.Or(cmp.Compare(x.First, y.First), cmp.Compare(x.Block, y.Block))
	})
	return out
}
