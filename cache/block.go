package cache

import "granary/api"

// block is one that is at hand. Its First and Last count while it is dirty.
type block struct {
	links
	api.Dirty
	dirty bool
	data  [api.BlockBytes]byte
}

// links are a block's neighbours by their last use.
type links struct {
	older, newer *block
}

// newRing is a ring that has just its beginning, which is no block of the cache: so neither end of the order is a case of its own.
func newRing() *block {
	ring := &block{}
	ring.older, ring.newer = ring, ring
	return ring
}

// fill makes the bytes p and zeros behind it. It copies, since neither p nor what home answers may be kept.
func (x *block) fill(p []byte) {
	n := copy(x.data[:], p)
	clear(x.data[n:])
}

// unlink takes the block out of its ring.
func (x *block) unlink() {
	x.older.newer = x.newer
	x.newer.older = x.older
	x.links = links{}
}

// linkAhead lays the block into the ring, ahead of another.
func (x *block) linkAhead(of *block) {
	x.links = links{older: of.older, newer: of}
	x.older.newer = x
	x.newer.older = x
}

// take gives the block a place, for which there must be room; it is used last.
func (c *Cache) take(b int) *block {
	x := &block{Dirty: api.Dirty{Block: b}}
	x.linkAhead(c.uses)
	c.blocks[b] = x
	return x
}

// use makes the block the one that was used last.
func (c *Cache) use(x *block) {
	x.unlink()
	x.linkAhead(c.uses)
}

// forget takes the block's place away from it.
func (c *Cache) forget(x *block) {
	x.unlink()
	delete(c.blocks, x.Block)
}
