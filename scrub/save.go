package scrub

import (
	"granary/api"
	"granary/stripe"
)

// A Save is numbers of eight bytes, the highest first: how many blocks there are, what was counted, how many blocks are gone, and which. That number of them is there so that no Save is the beginning of another.
const (
	longBytes = 8
	heads     = 6
)

// mostSteps is more than any scrubber makes; up to it none of what is counted wraps round.
const mostSteps = 1<<60 - 1

// mostShards is how many shards a block has at most (P6.1).
const mostShards = 8

// Save: P7.5. At and Passes need no place of their own: the steps and the blocks tell them.
func (s *Scrub) Save() []byte {
	if s == nil {
		return nil
	}
	var out []byte
	for _, n := range [heads]uint64{s.blocks(), s.steps, s.right, s.wrong, s.healed, uint64(len(s.gone))} {
		out = layLong(out, n)
	}
	for _, b := range s.gone {
		out = layLong(out, uint64(b))
	}
	return out
}

// Load: P7.5.
func Load(d *stripe.Device, p []byte) (*Scrub, api.Errno) {
	if blockless(d) {
		return nil, api.ErrNone
	}
	if len(p)%longBytes != 0 || len(p) < heads*longBytes {
		return nil, api.ErrCursor
	}
	n := longs(p)
	s := &Scrub{device: d, steps: n[1], right: n[2], wrong: n[3], healed: n[4]}
	gone := n[heads:]
	if n[0] != s.blocks() || n[5] != uint64(len(gone)) || !s.takeGone(gone) || !s.canBe() {
		return nil, api.ErrCursor
	}
	return s, api.OK
}

// takeGone takes the blocks that are gone, and tells whether they can be: they rise, and were looked at.
func (s *Scrub) takeGone(blocks []uint64) bool {
	least, end := uint64(0), min(s.blocks(), s.steps)
	for _, b := range blocks {
		if b < least || b >= end {
			return false
		}
		s.gone = append(s.gone, int(b))
		least = b + 1
	}
	return true
}

// canBe: a scrubber may have counted so. A step that found a block right, and the last one that found a block gone, are not the same; and where a block is right, no shard is wrong.
func (s *Scrub) canBe() bool {
	if s.steps > mostSteps || s.right > s.steps {
		return false
	}
	others := s.steps - s.right
	return uint64(len(s.gone)) <= others && s.healed <= s.wrong && s.wrong <= mostShards*others
}

// layLong is out with the eight bytes of n behind.
func layLong(out []byte, n uint64) []byte {
	for shift := 56; shift >= 0; shift -= 8 {
		out = append(out, byte(n>>shift))
	}
	return out
}

// longs is the numbers that the bytes are, eight by eight.
func longs(p []byte) []uint64 {
	out := make([]uint64, len(p)/longBytes)
	for i, b := range p {
		out[i/longBytes] = out[i/longBytes]<<8 | uint64(b)
	}
	return out
}
