package extents_test

import (
	"bytes"
	"fmt"
	"maps"
	"slices"
	"strings"
	"testing"

	"granary/api"
	"granary/btree"
)

// Numbers at the edges of their kind.
const (
	leastInt    = -1 << 63
	greatestInt = 1<<63 - 1
	greatest    = 1<<64 - 1
)

// size is how many bytes a piece has, last the number of the last one that a content can have.
const (
	size = api.BlockBytes
	last = (api.MaxFile - 1) / size
)

// errRefused is an error of a space that nobody else has.
const errRefused api.Errno = 977

// room is a space in memory. What is taken of it has any bytes at first; blocks that are frozen may neither be written nor given back; and it refuses what it is told to.
type room struct {
	t       *testing.T
	quiet   bool // nothing is said of blocks that are others', or not taken
	blocks  map[int][]byte
	free    []int // what was given back: it is given out again, the last first
	made    int
	most    int              // how many blocks there are
	called  func(i int) int  // the number of the block that is made as the i-th
	bare    bool             // Read hands out its own memory
	frozen  map[int]struct{} // blocks that are others'
	calls   map[string]int   // how often it was called
	refuse  map[string]int   // which call of these it refuses; 0: none, below 0: each
	refused int              // how often it has
	why     api.Errno        // with which error; each time one more, if it is varied
	varied  bool
}

// newRoom is a space of so many blocks.
func newRoom(t *testing.T, most int) *room {
	return &room{
		t: t, most: most, called: func(i int) int { return i - 1 }, why: errRefused,
		blocks: map[int][]byte{}, frozen: map[int]struct{}{}, calls: map[string]int{}, refuse: map[string]int{},
	}
}

// wide is a space with more blocks than any test needs.
func wide(t *testing.T) *room { return newRoom(t, greatestInt) }

// strange is a space whose blocks have numbers from all ends of the ints, and whose Read hands out its own memory.
func strange(t *testing.T) *room {
	s := wide(t)
	s.bare = true
	s.called = func(i int) int {
		switch i % 4 {
		case 0:
			return -i
		case 1:
			return leastInt + i
		case 2:
			return greatestInt - i
		}
		return 1<<32 + i
	}
	return s
}

// spaces is a space of each kind.
func spaces(t *testing.T) []*room { return []*room{wide(t), strange(t)} }

// refuses counts a call, and says whether it is refused, and with which error.
func (s *room) refuses(call string) (api.Errno, bool) {
	s.calls[call]++
	if n := s.refuse[call]; n == 0 || n > 0 && n != s.calls[call] {
		return api.OK, false
	}
	s.refused++
	if s.varied {
		return s.why + api.Errno(s.refused) - 1, true
	}
	return s.why, true
}

// refuseNext: of the calls from now on the n-th of that name is refused; below 0: each; 0: none.
func (s *room) refuseNext(call string, n int, why api.Errno) {
	if n > 0 {
		n += s.calls[call]
	}
	s.refuse[call], s.why, s.refused = n, why, 0
}

// asked is how many calls there were.
func (s *room) asked() int { return s.calls["Read"] + s.changes() }

// changes is how many calls there were that change something.
func (s *room) changes() int { return s.calls["Take"] + s.calls["Write"] + s.calls["Give"] }

// complain: what was done with the block is wrong.
func (s *room) complain(what string, b int) {
	if !s.quiet {
		s.t.Errorf("the block %d is %s", b, what)
	}
}

// Read is api.Space's.
func (s *room) Read(b int) ([]byte, api.Errno) {
	p, is := s.blocks[b]
	if e, no := s.refuses("Read"); no {
		return nil, e
	}
	switch {
	case !is:
		return nil, api.ErrArg
	case s.bare:
		return p, api.OK
	}
	return bytes.Clone(p), api.OK
}

// Write is api.Space's.
func (s *room) Write(b int, p []byte) api.Errno {
	if _, is := s.frozen[b]; is {
		s.complain("written, and is others'", b)
	}
	old, is := s.blocks[b]
	if e, no := s.refuses("Write"); no {
		return e
	}
	switch {
	case !is:
		return api.ErrArg
	case len(p) > api.BlockBytes:
		return api.ErrLong
	}
	n := copy(old, p)
	clear(old[n:])
	return api.OK
}

// Take is api.Space's.
func (s *room) Take() (int, api.Errno) {
	if e, no := s.refuses("Take"); no {
		return 0, e
	}
	if len(s.blocks) >= s.most {
		return 0, api.ErrSpace
	}
	var b int
	if at := len(s.free) - 1; at >= 0 {
		b, s.free = s.free[at], s.free[:at]
	} else {
		s.made++
		b = s.called(s.made)
	}
	s.blocks[b] = bytes.Repeat([]byte{0xee}, api.BlockBytes)
	return b, api.OK
}

// Give is api.Space's.
func (s *room) Give(b int) api.Errno {
	if _, is := s.frozen[b]; is {
		s.complain("given back, and is others'", b)
	}
	if e, no := s.refuses("Give"); no {
		return e
	}
	if _, is := s.blocks[b]; !is {
		s.complain("given back, and is not taken", b)
		return api.ErrArg
	}
	delete(s.blocks, b)
	s.free = append(s.free, b)
	return api.OK
}

// taken is the blocks that are taken, rising.
func (s *room) taken() []int { return slices.Sorted(maps.Keys(s.blocks)) }

// freeze: what is taken now is others' from now on.
func (s *room) freeze() {
	for b := range s.blocks {
		s.frozen[b] = struct{}{}
	}
}

// giveBack gives blocks back that nobody needs any more.
func (s *room) giveBack(blocks []int) {
	s.t.Helper()
	for _, b := range blocks {
		delete(s.frozen, b)
		want(s.t, "Give", s.Give(b), api.OK)
	}
}

// bytes is what all blocks have.
func (s *room) bytes() map[int]string {
	out := map[int]string{}
	for b, p := range s.blocks {
		out[b] = string(p)
	}
	return out
}

// want: the error, and no other.
func want(t *testing.T, name string, got, e api.Errno) {
	t.Helper()
	if got != e {
		t.Errorf("%s: error %d, want %d", name, got, e)
	}
}

// told: the list, in this order.
func told[T comparable](t *testing.T, name string, got []T, wanted ...T) {
	t.Helper()
	if !slices.Equal(got, wanted) {
		t.Errorf("%s: %s, want %s", name, brief(got), brief(wanted))
	}
}

// brief is a value as text, of which the beginning is enough.
func brief(v any) string {
	out := fmt.Sprintf("%+v", v)
	return out[:min(len(out), 500)]
}

// others is keys that belong to others, and what they have: all kinds of beginnings, and those just beside the package's own.
func others() map[string]string {
	out := map[string]string{}
	for _, head := range []string{"\x00", "X", "a", "w", "y", "z", "\xff"} {
		for _, rest := range []string{"", "\x00", strings.Repeat("\x00", 12), strings.Repeat("\xff", 12), strings.Repeat("\xff", api.MaxKey-1)} {
			out[head+rest] = "of " + head
		}
	}
	return out
}

// theirs is what keys have that do not begin with x.
func theirs(b *btree.Batch) map[string]string {
	out := map[string]string{}
	for _, p := range b.Range(nil, nil, greatestInt) {
		if p.Key[0] != 'x' {
			out[string(p.Key)] = string(p.Value)
		}
	}
	return out
}

// planted is the root of a new tree with others' keys alone.
func planted(t *testing.T, s *room) int {
	t.Helper()
	root, e := btree.Empty(s)
	want(t, "Empty", e, api.OK)
	b := btree.Open(s, root)
	for _, k := range slices.Sorted(maps.Keys(others())) {
		b.Put([]byte(k), []byte(others()[k]))
	}
	want(t, "Why", b.Why(), api.OK)
	s.giveBack(b.Gone())
	return b.Root()
}

// blocksOf is the blocks of the root's tree.
func blocksOf(t *testing.T, s *room, root int) []int {
	t.Helper()
	out, e := btree.Blocks(s, root)
	want(t, "Blocks of the tree", e, api.OK)
	return out
}

// minus is what of a rising list is not in another.
func minus(l, without []int) []int {
	var out []int
	for _, x := range l {
		if _, is := slices.BinarySearch(without, x); !is {
			out = append(out, x)
		}
	}
	return out
}

// union is what is in one of the lists, or in several, rising.
func union(lists ...[]int) []int {
	out := slices.Concat(lists...)
	slices.Sort(out)
	return slices.Compact(out)
}

// text is n bytes, none of them 0, of which neighbouring ones are unlike; each first one makes another text.
func text(first, n int) string {
	out := make([]byte, n)
	for i := range out {
		out[i] = byte(1 + (first+i)%255)
	}
	return string(out)
}

// dice is numbers that look thrown, the same ones each time.
type dice uint64

// below is the next number, of 0 to n - 1.
func (d *dice) below(n int) int {
	*d = *d*6364136223846793005 + 1442695040888963407
	return int(uint64(*d) >> 33 % uint64(n))
}

// one is a drawn element of the list.
func one[T any](d *dice, l []T) T { return l[d.below(len(l))] }
