package merkle

import "granary/api"

// Size: P17.3.
func Size(s api.Chunks, d api.Digest) (byte, uint64, api.Errno) {
	c, e := fetchHead(s, d)
	return c.kind, c.size, e
}

// Read: P17.3.
func Read(s api.Chunks, d api.Digest, at uint64, n int) ([]byte, api.Errno) {
	if n < 0 {
		return nil, api.ErrArg
	}
	c, e := fetchHead(s, d)
	if e != api.OK {
		return nil, e
	}
	return c.read(s, at, uint64(n))
}

// fetchHead is the chunk of that digest, which must be a head.
func fetchHead(s api.Chunks, d api.Digest) (chunk, api.Errno) {
	c, e := fetch(s, d)
	switch {
	case e != api.OK:
		return chunk{}, e
	case c.kind != api.ObjectFile && c.kind != api.ObjectDir:
		return chunk{}, api.ErrObject
	}
	return c, api.OK
}

// read is n bytes from at on of the object with that head, or fewer.
func (c chunk) read(s api.Chunks, at, n uint64) ([]byte, api.Errno) {
	if n == 0 || at >= c.size {
		return nil, api.OK
	}
	r := reader{store: s, from: at, to: at + min(n, c.size-at)}
	switch e := r.read(c.digests[0], 0, c.size); {
	case e != api.OK:
		return nil, e
	case r.wrong:
		return nil, api.ErrObject
	}
	return r.out, api.OK
}

// reader reads the bytes of an object between two places. It goes on behind a chunk that is wrong, since the store's error comes ahead of that, wherever it is met.
type reader struct {
	store    api.Chunks
	from, to uint64
	out      []byte
	wrong    bool
}

// read reads what is asked for of the bytes from low to high, which are just those under the digest.
func (r *reader) read(d api.Digest, low, high uint64) api.Errno {
	c, e := fetch(r.store, d)
	if e != api.OK {
		return e
	}
	if high-low <= api.LeafSize {
		r.readLeaf(c, low, high)
		return api.OK
	}
	each := share(high - low)
	if c.kind != nodeMark || uint64(len(c.digests)) != (high-low+each-1)/each {
		r.wrong = true
		return api.OK
	}
	for _, under := range c.digests {
		next := min(low+each, high)
		if low < r.to && next > r.from {
			if e := r.read(under, low, next); e != api.OK {
				return e
			}
		}
		low = next
	}
	return api.OK
}

// readLeaf takes what is asked for of a chunk that must be the leaf of the bytes from low to high.
func (r *reader) readLeaf(c chunk, low, high uint64) {
	if c.kind != leafMark || uint64(len(c.piece)) != high-low {
		r.wrong = true
		return
	}
	r.out = append(r.out, c.piece[max(low, r.from)-low:min(high, r.to)-low]...)
}

// share is how many bytes are under each digest of the node that n bytes are under, but the last one. (Above n bytes that are no more than one share there is no node of their own.)
func share(n uint64) uint64 {
	out := uint64(api.LeafSize)
	for out*api.NodeSize < n {
		out *= api.NodeSize
	}
	return out
}
