// Package merkle is layer 17: objects of files and directories, in chunks that are told by their digests (see shared/doc/17-merkle.md).
package merkle

import "granary/api"

// What leaves and nodes begin with; a head begins with the kind of its object.
const (
	leafMark = 'L'
	nodeMark = 'N'
)

const (
	sizeBytes   = 8
	digestBytes = len(api.Digest{})
	leastNode   = 2 // one digest goes up as it is, without a node
)

// chunk is what a chunk's bytes tell: of a leaf its piece, of a node its digests, of a head how many bytes the object has, and the digest of what they are under. Bytes that are no chunk of an object have the kind 0.
type chunk struct {
	kind    byte
	piece   []byte
	digests []api.Digest
	size    uint64
}

// fetch is the chunk of that digest.
func fetch(s api.Chunks, d api.Digest) (chunk, api.Errno) {
	if s == nil {
		return chunk{}, api.ErrArg
	}
	p, e := s.Get(d)
	if e != api.OK {
		return chunk{}, e
	}
	return parse(p), api.OK
}

// put puts a chunk. Where the store refuses it there is no digest, whatever the store says.
func put(s api.Chunks, p []byte) (api.Digest, api.Errno) {
	d, e := s.Put(p)
	if e != api.OK {
		return api.Digest{}, e
	}
	return d, api.OK
}

// parse is what the bytes tell.
func parse(p []byte) chunk {
	if len(p) == 0 {
		return chunk{}
	}
	c, is := chunk{kind: p[0]}, false
	switch body := p[1:]; c.kind {
	case api.ObjectFile, api.ObjectDir:
		is = c.takeHead(body)
	case nodeMark:
		c.digests = digests(body)
		is = len(body)%digestBytes == 0 && len(c.digests) >= leastNode && len(c.digests) <= api.NodeSize
	case leafMark:
		c.piece = body
		is = len(body) > 0 && len(body) <= api.LeafSize
	}
	if !is {
		return chunk{}
	}
	return c
}

// takeHead takes what stands behind a head's kind, and tells whether it may stand there. A head of no bytes names no digest.
func (c *chunk) takeHead(body []byte) bool {
	if len(body) != sizeBytes+digestBytes {
		return false
	}
	c.size = number(body[:sizeBytes])
	c.digests = digests(body[sizeBytes:])
	zero := c.digests[0] == api.Digest{}
	if zero {
		c.digests = nil
	}
	return c.size <= api.MaxFile && zero == (c.size == 0)
}

// leaf is the bytes of a leaf.
func leaf(piece []byte) []byte { return append([]byte{leafMark}, piece...) }

// node is the bytes of a node.
func node(l []api.Digest) []byte {
	out := []byte{nodeMark}
	for _, d := range l {
		out = append(out, d[:]...)
	}
	return out
}

// head is the bytes of a head.
func head(kind byte, size int, root api.Digest) []byte {
	return append(appendNumber([]byte{kind}, uint64(size), sizeBytes), root[:]...)
}

// digests is those that stand in the bytes, one behind the other.
func digests(p []byte) []api.Digest {
	var out []api.Digest
	for ; len(p) >= digestBytes; p = p[digestBytes:] {
		out = append(out, api.Digest(p[:digestBytes]))
	}
	return out
}

// appendNumber lays so many bytes of a number, the most significant first.
func appendNumber(p []byte, n uint64, width int) []byte {
	for i := width - 1; i >= 0; i-- {
		p = append(p, byte(n>>(8*i)))
	}
	return p
}

// number is what appendNumber has laid.
func number(p []byte) uint64 {
	out := uint64(0)
	for _, each := range p {
		out = out<<8 | uint64(each)
	}
	return out
}
