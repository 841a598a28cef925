package extents

import "granary/api"

// Read: P14.2.
func (c *Contents) Read(ino, at uint64, n int) []byte {
	switch {
	case c.ended():
		return nil
	case n < 0:
		c.meet(api.ErrArg)
		return nil
	case beyond(at, n):
		c.meet(api.ErrLong)
		return nil
	case n == 0:
		return nil
	}
	out := make([]byte, n)
	first, end := span(at, n)
	for _, x := range c.pieces(ino, first, end) {
		p, e := c.load(x)
		if e != api.OK {
			c.meet(e)
			break
		}
		inPiece, inOut := meeting(x, at)
		copy(out[inOut:], p[inPiece:])
	}
	if c.ended() {
		return nil
	}
	return out
}

// Write: P14.3. How long p may be is asked first, since of no bytes, too, at may not be above MaxFile.
func (c *Contents) Write(ino, at uint64, p []byte) {
	switch {
	case c.ended():
		return
	case beyond(at, len(p)):
		c.meet(api.ErrLong)
		return
	case len(p) == 0:
		return
	}
	for _, x := range c.touched(ino, at, len(p)) {
		if e := c.write(x, at, p); e != api.OK {
			c.meet(e)
			return
		}
	}
}

// Cut: P14.4. No byte stands behind MaxFile, so that there is nothing to cut off.
func (c *Contents) Cut(ino, size uint64) {
	if c.ended() || size >= api.MaxFile {
		return
	}
	for _, x := range c.pieces(ino, int(size/api.BlockBytes), mostPieces) {
		if e := c.cut(x, int(size)); e != api.OK {
			c.meet(e)
			return
		}
	}
}

// Drop: P14.4.
func (c *Contents) Drop(ino uint64) { c.Cut(ino, 0) }

// beyond: at and n, which is not below 0, are above MaxFile.
func beyond(at uint64, n int) bool { return at > api.MaxFile || uint64(n) > api.MaxFile-at }

// meeting is where a piece and bytes from at on meet: from which place of the piece on, and from which of the bytes on.
func meeting(x piece, at uint64) (inPiece, inBytes int) {
	ahead := int(at) - x.number*api.BlockBytes
	return max(ahead, 0), max(-ahead, 0)
}

// write: of the bytes p, which stand from at on, the piece has those that fall to it. Where they leave nothing of what it had, that is not read.
func (c *Contents) write(x piece, at uint64, p []byte) api.Errno {
	inPiece, inBytes := meeting(x, at)
	part := p[inBytes:]
	laid := make([]byte, api.BlockBytes)
	if whole := inPiece == 0 && len(part) >= api.BlockBytes; !whole {
		var e api.Errno
		if laid, e = c.load(x); e != api.OK {
			return e
		}
	}
	copy(laid[inPiece:], part)
	return c.lay(x, laid)
}

// cut: of the piece, which ends behind size, nothing is left but what stands ahead of size.
func (c *Contents) cut(x piece, size int) api.Errno {
	left := size - x.number*api.BlockBytes
	if left <= 0 {
		return c.drop(x)
	}
	p, e := c.load(x)
	if e != api.OK {
		return e
	}
	clear(p[left:])
	return c.lay(x, p)
}

// load is the bytes of a piece in new memory, since a space may hand out its own.
func (c *Contents) load(x piece) ([]byte, api.Errno) {
	out := make([]byte, api.BlockBytes)
	if !x.there {
		return out, api.OK
	}
	p, e := c.space.Read(x.block)
	copy(out, p)
	return out, e
}

// lay: the piece is there, and has these bytes. They are written over its block only if that is these contents' own.
func (c *Contents) lay(x piece, p []byte) api.Errno {
	if _, own := c.taken[x.block]; own && x.there {
		return c.space.Write(x.block, p)
	}
	block, e := c.take()
	if e != api.OK {
		return e
	}
	if e := c.space.Write(block, p); e != api.OK {
		return e
	}
	c.batch.Put(x.key(), blockValue(block))
	if e := c.batch.Why(); e != api.OK || !x.there {
		return e
	}
	return c.leave(x.block)
}

// drop: the piece is there no more.
func (c *Contents) drop(x piece) api.Errno {
	c.batch.Drop(x.key())
	if e := c.batch.Why(); e != api.OK {
		return e
	}
	return c.leave(x.block)
}
