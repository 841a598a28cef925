package cache

import (
	"bytes"

	"granary/api"
)

// Clean: P9.6.
func (c *Cache) Clean(most int) (int, api.Errno) {
	if c.none() {
		return 0, api.ErrNone
	}
	n := 0
	for _, x := range c.dirtyBlocks() {
		if n >= most {
			break
		}
		if !c.mayGoHome(x) {
			continue
		}
		if e := c.writeHome(x); e != api.OK {
			return n, e
		}
		n++
	}
	return n, api.OK
}

// Flush: P9.6.
func (c *Cache) Flush() api.Errno {
	if c.none() {
		return api.ErrNone
	}
	if _, e := c.Clean(len(c.blocks)); e != api.OK {
		return e
	}
	if e := c.home.Flush(); e != api.OK {
		return e
	}
	if _, some := c.Oldest(); some {
		return api.ErrAhead
	}
	return api.OK
}

// makeRoom: behind it a place is free.
func (c *Cache) makeRoom() api.Errno {
	if len(c.blocks) < c.places {
		return api.OK
	}
	x, e := c.leaver()
	if e != api.OK {
		return e
	}
	if x.dirty {
		if e := c.writeHome(x); e != api.OK {
			return e
		}
	}
	c.forget(x)
	return api.OK
}

// leaver is the block that makes room for another, or why there is none.
func (c *Cache) leaver() (*block, api.Errno) {
	why := api.ErrPinned
	for x := c.uses.newer; x != c.uses; x = x.newer {
		switch {
		case x.Pins > 0:
		case !x.dirty || c.mayGoHome(x):
			return x, api.OK
		default:
			why = api.ErrAhead
		}
	}
	return nil, why
}

// mayGoHome: the change that wrote the block last is in the journal.
func (c *Cache) mayGoHome(x *block) bool { return x.Last <= c.safe }

// writeHome writes the block home; behind an error it is dirty still. Home gets bytes of its own, so that it can't reach those at hand.
func (c *Cache) writeHome(x *block) api.Errno {
	e := c.home.Write(x.Block, bytes.Clone(x.data[:]))
	if e == api.OK {
		x.dirty = false
	}
	return e
}
