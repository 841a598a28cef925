package arena

import (
	"bytes"

	"granary/api"
	"granary/sha"
)

// Put: P16.4.
func (s *Store) Put(p []byte) (api.Digest, api.Errno) {
	switch {
	case s == nil:
		return api.Digest{}, api.ErrNone
	case s.stopped:
		return api.Digest{}, api.ErrStop
	case len(p) == 0:
		return api.Digest{}, api.ErrArg
	case len(p) > api.MaxChunk:
		return api.Digest{}, api.ErrLong
	}
	digest := sha.Sum(p)
	e := api.OK
	if at, is := s.found[digest]; !is {
		e = s.lay([]record{{digest, bytes.Clone(p)}})
	} else if !bytes.Equal(s.at(at).bytes, p) {
		e = api.ErrClash
	}
	if e != api.OK {
		return api.Digest{}, e
	}
	return digest, api.OK
}

// lay lays all of the records, or none: those that have room behind the open block's, and the others into the next block. These are no more than it has room for.
func (s *Store) lay(l []record) api.Errno {
	here := s.room(l)
	if here == len(l) {
		s.add(l)
		return api.OK
	}
	next := s.firstFree()
	if next == none || s.stamp >= mostStamp {
		return api.ErrFull
	}
	if s.open != none {
		if e := s.write(l[:here]); e != api.OK {
			s.stopped = true
			return e
		}
		s.add(l[:here])
	}
	s.open, s.stamp = next, s.stamp+1
	s.add(l[here:])
	return api.OK
}

// room is how many of the records, from the front on, the open block has room for.
func (s *Store) room(l []record) int {
	if s.open == none {
		return 0
	}
	x := s.blocks[s.open]
	left := api.ArenaBytes - x.live - x.dead - lengthBytes*len(x.records)
	for i, r := range l {
		left -= lengthBytes + len(r.bytes)
		if left < 0 {
			return i
		}
	}
	return len(l)
}

// firstFree is the first free block, or none.
func (s *Store) firstFree() int {
	for b, x := range s.blocks {
		if len(x.records) == 0 {
			return b
		}
	}
	return none
}

// write writes the open block as it is with these records behind its own.
func (s *Store) write(more []record) api.Errno {
	x := api.Arena{Stamp: s.stamp}
	for _, l := range [][]record{s.blocks[s.open].records, more} {
		for _, r := range l {
			x.Chunks = append(x.Chunks, r.bytes)
		}
	}
	b, e := PutBlock(x)
	if e != api.OK {
		return e
	}
	return s.device.Write(s.first+s.open, b)
}

// add lays records behind the open block's. They are the live ones of their digests from now on.
func (s *Store) add(l []record) {
	x := &s.blocks[s.open]
	for _, r := range l {
		s.kill(r.digest)
		s.found[r.digest] = spot{s.open, len(x.records)}
		x.records = append(x.records, r)
		x.live += len(r.bytes)
		s.behind = true
	}
}

// kill makes the live record of the digest, if there is one, a dead one.
func (s *Store) kill(d api.Digest) bool {
	at, is := s.found[d]
	if is {
		n := len(s.at(at).bytes)
		s.blocks[at.block].live -= n
		s.blocks[at.block].dead += n
		delete(s.found, d)
	}
	return is
}

// Drop: P16.5.
func (s *Store) Drop(d api.Digest) api.Errno {
	switch {
	case s == nil:
		return api.ErrNone
	case s.stopped:
		return api.ErrStop
	case !s.kill(d):
		return api.ErrNone
	}
	return api.OK
}

// Sync: P16.6.
func (s *Store) Sync() api.Errno {
	switch {
	case s == nil:
		return api.ErrNone
	case s.stopped:
		return api.ErrStop
	}
	var over []int
	for b, x := range s.blocks {
		if x.dead > 0 && x.live == 0 {
			over = append(over, b)
		}
	}
	if e := s.home(over); e != api.OK {
		s.stopped = true
		return e
	}
	s.behind = false
	for _, b := range over {
		s.blocks[b] = block{}
		if b == s.open {
			s.open = none
		}
	}
	return api.OK
}

// home makes stable what was laid, and only then that these blocks are empty: their chunks may have been laid anew.
func (s *Store) home(over []int) api.Errno {
	if s.open != none && s.behind {
		if e := s.write(nil); e != api.OK {
			return e
		}
	}
	e := s.device.Flush()
	if e != api.OK || len(over) == 0 {
		return e
	}
	for _, b := range over {
		if e := s.device.Write(s.first+b, zeros()); e != api.OK {
			return e
		}
	}
	return s.device.Flush()
}

// Compact: P16.7.
func (s *Store) Compact() (bool, api.Errno) {
	switch {
	case s == nil:
		return false, api.ErrNone
	case s.stopped:
		return false, api.ErrStop
	}
	b := s.sparsest()
	if b == none {
		return false, api.OK
	}
	if e := s.lay(s.living(b)); e != api.OK {
		return false, e
	}
	return true, api.OK
}

// sparsest is the full block with live and dead records that has the fewest live bytes, or none.
func (s *Store) sparsest() int {
	out := none
	for b, x := range s.blocks {
		if b == s.open || x.live == 0 || x.dead == 0 {
			continue
		}
		if out == none || x.live < s.blocks[out].live {
			out = b
		}
	}
	return out
}

// living is the live records of a block.
func (s *Store) living(b int) []record {
	var out []record
	for i, r := range s.blocks[b].records {
		if at, is := s.found[r.digest]; is && at == (spot{b, i}) {
			out = append(out, r)
		}
	}
	return out
}
