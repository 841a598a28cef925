package arena

import (
	"bytes"
	"maps"
	"slices"

	"granary/api"
)

// Get: P16.5. What the open block has is at hand; the others are read, since the device may refuse, or have lost them.
func (s *Store) Get(d api.Digest) ([]byte, api.Errno) {
	at, is := s.spotOf(d)
	if !is {
		return nil, api.ErrNone
	}
	kept := s.at(at).bytes
	if at.block == s.open {
		return bytes.Clone(kept), api.OK
	}
	p, e := s.device.Read(s.first + at.block)
	if e != api.OK {
		return nil, e
	}
	x, e := GetBlock(p)
	if e != api.OK {
		return nil, e
	}
	for _, c := range x.Chunks {
		if bytes.Equal(c, kept) {
			return c, api.OK
		}
	}
	return nil, api.ErrArena
}

// spotOf is where the chunk lies that is there.
func (s *Store) spotOf(d api.Digest) (spot, bool) {
	if s == nil {
		return spot{}, false
	}
	at, is := s.found[d]
	return at, is
}

// Has: P16.5.
func (s *Store) Has(d api.Digest) bool {
	_, is := s.spotOf(d)
	return is
}

// Where: P16.5.
func (s *Store) Where(d api.Digest) (int, bool) {
	at, is := s.spotOf(d)
	return at.block, is
}

// List: P16.8.
func (s *Store) List() []api.Digest {
	if s == nil {
		return nil
	}
	return slices.SortedFunc(maps.Keys(s.found), func(a, b api.Digest) int { return bytes.Compare(a[:], b[:]) })
}

// Len: P16.8.
func (s *Store) Len() int {
	if s == nil {
		return 0
	}
	return len(s.found)
}

// Live: P16.8.
func (s *Store) Live() int { return s.sum(func(x block) int { return x.live }) }

// Dead: P16.8.
func (s *Store) Dead() int { return s.sum(func(x block) int { return x.dead }) }

// Free: P16.8.
func (s *Store) Free() int {
	return s.sum(func(x block) int {
		if len(x.records) > 0 {
			return 0
		}
		return 1
	})
}

// Blocks: P16.8.
func (s *Store) Blocks() int { return s.sum(func(block) int { return 1 }) }

// sum is what the blocks count together.
func (s *Store) sum(of func(x block) int) int {
	if s == nil {
		return 0
	}
	out := 0
	for _, x := range s.blocks {
		out += of(x)
	}
	return out
}
