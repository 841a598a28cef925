package btree_test

import (
	"bytes"
	"maps"
	"slices"
	"strings"
	"testing"

	"granary/api"
	"granary/btree"
)

// Numbers at the edges of their kind.
const (
	leastInt    = -1 << 63
	greatestInt = 1<<63 - 1
)

// errRefused is an error of a space that nobody else has.
const errRefused api.Errno = 977

// room is a space in memory. What is taken of it has any bytes at first; blocks that are frozen may neither be written nor given back; and it refuses what it is told to.
type room struct {
	t       *testing.T
	blocks  map[int][]byte
	free    []int // what was given back: it is given out again, the last first
	made    int
	most    int              // how many blocks there are
	called  func(i int) int  // the number of the block that is made as the i-th
	bare    bool             // Read hands out its own memory
	frozen  map[int]struct{} // blocks that are others'
	calls   map[string]int   // how often it was called
	refuse  map[string]int   // which call of these it refuses; 0: none, below 0: each
	refused map[string]int   // how often it has
	varied  bool             // each time with another error
}

// newRoom is a space of so many blocks.
func newRoom(t *testing.T, most int) *room {
	return &room{
		t: t, most: most, called: func(i int) int { return i },
		blocks: map[int][]byte{}, frozen: map[int]struct{}{},
		calls: map[string]int{}, refuse: map[string]int{}, refused: map[string]int{},
	}
}

// wide is a space with more blocks than any test needs.
func wide(t *testing.T) *room { return newRoom(t, greatestInt) }

// strange is a space whose blocks have numbers from all ends of the ints, and whose Read hands out its own memory.
func strange(t *testing.T) *room {
	s := wide(t)
	s.bare = true
	s.called = func(i int) int {
		switch i % 4 {
		case 0:
			return -i
		case 1:
			return leastInt + i
		case 2:
			return greatestInt - i
		}
		return 1<<32 + i
	}
	return s
}

// spaces is a space of each kind.
func spaces(t *testing.T) []*room { return []*room{wide(t), strange(t)} }

// refuses counts a call, and says whether it is refused.
func (s *room) refuses(call string) bool {
	s.calls[call]++
	if n := s.refuse[call]; n >= 0 && (n == 0 || s.calls[call] != n) {
		return false
	}
	s.refused[call]++
	return true
}

// refuseNext: of the calls from now on the n-th of that name is refused; below 0: each; 0: none.
func (s *room) refuseNext(call string, n int) {
	if n > 0 {
		n += s.calls[call]
	}
	s.refuse[call] = n
}

// why is the error of what is refused now.
func (s *room) why(call string) api.Errno {
	if s.varied {
		return errRefused + api.Errno(s.refused[call]) - 1
	}
	return errRefused
}

// Read is api.Space's.
func (s *room) Read(b int) ([]byte, api.Errno) {
	p, is := s.blocks[b]
	if s.refuses("Read") {
		return nil, s.why("Read")
	}
	switch {
	case !is:
		return nil, api.ErrArg
	case s.bare:
		return p, api.OK
	}
	return bytes.Clone(p), api.OK
}

// Write is api.Space's.
func (s *room) Write(b int, p []byte) api.Errno {
	if _, is := s.frozen[b]; is {
		s.t.Errorf("a batch writes to the block %d, which is not its own", b)
	}
	old, is := s.blocks[b]
	if s.refuses("Write") {
		return s.why("Write")
	}
	switch {
	case !is:
		return api.ErrArg
	case len(p) > api.BlockBytes:
		return api.ErrLong
	}
	n := copy(old, p)
	clear(old[n:])
	return api.OK
}

// Take is api.Space's.
func (s *room) Take() (int, api.Errno) {
	switch {
	case s.refuses("Take"):
		return 0, s.why("Take")
	case len(s.blocks) >= s.most:
		return 0, api.ErrSpace
	}
	var b int
	if last := len(s.free) - 1; last >= 0 {
		b, s.free = s.free[last], s.free[:last]
	} else {
		s.made++
		b = s.called(s.made)
	}
	s.blocks[b] = bytes.Repeat([]byte{0xee}, api.BlockBytes)
	return b, api.OK
}

// Give is api.Space's.
func (s *room) Give(b int) api.Errno {
	if _, is := s.frozen[b]; is {
		s.t.Errorf("a batch gives back the block %d, which is not its own", b)
	}
	if s.refuses("Give") {
		return s.why("Give")
	}
	if _, is := s.blocks[b]; !is {
		s.t.Errorf("the block %d is given back, and is not taken", b)
		return api.ErrArg
	}
	delete(s.blocks, b)
	s.free = append(s.free, b)
	return api.OK
}

// taken is the blocks that are taken, rising.
func (s *room) taken() []int { return slices.Sorted(maps.Keys(s.blocks)) }

// freeze: what is taken now is others' from now on.
func (s *room) freeze() {
	for b := range s.blocks {
		s.frozen[b] = struct{}{}
	}
}

// giveBack gives blocks back that nobody needs any more.
func (s *room) giveBack(blocks []int) {
	s.t.Helper()
	for _, b := range blocks {
		delete(s.frozen, b)
		want(s.t, "Give", s.Give(b), api.OK)
	}
}

// bytes is what all blocks have.
func (s *room) bytes() map[int]string {
	out := map[int]string{}
	for b, p := range s.blocks {
		out[b] = string(p)
	}
	return out
}

// stays: what is done leaves the blocks that are taken, and what they have.
func (s *room) stays(name string, do func()) {
	s.t.Helper()
	before := s.bytes()
	do()
	if !maps.Equal(s.bytes(), before) {
		s.t.Errorf("%s: the blocks %v have changed, or what they have; there were %v", name, s.taken(), slices.Sorted(maps.Keys(before)))
	}
}

// want: the error, and no other.
func want(t *testing.T, name string, got, e api.Errno) {
	t.Helper()
	if got != e {
		t.Errorf("%s: error %d, want %d", name, got, e)
	}
}

// told: the list, in this order.
func told[T comparable](t *testing.T, name string, got []T, wanted ...T) {
	t.Helper()
	if !slices.Equal(got, wanted) {
		t.Errorf("%s: %v, want %v", name, got, wanted)
	}
}

// text is a pair in one text.
func text(p api.Pair) string { return string(p.Key) + "=" + string(p.Value) }

// texts is pairs, a text each.
func texts(l []api.Pair) []string {
	var out []string
	for _, p := range l {
		out = append(out, text(p))
	}
	return out
}

// empty is the root of a new tree.
func empty(t *testing.T, s *room) int {
	t.Helper()
	root, e := btree.Empty(s)
	want(t, "Empty", e, api.OK)
	return root
}

// opened is a batch of which others' blocks are all that are taken.
func opened(t *testing.T, s *room, root int) *btree.Batch {
	t.Helper()
	s.freeze()
	b := btree.Open(s, root)
	if b == nil {
		t.Fatalf("Open is nil")
	}
	return b
}

// planted is the root of a new tree with these pairs, each a key, = and its value.
func planted(t *testing.T, s *room, list ...string) int {
	t.Helper()
	first := empty(t, s)
	b := opened(t, s, first)
	for _, x := range list {
		key, value, _ := strings.Cut(x, "=")
		b.Put([]byte(key), []byte(value))
	}
	want(t, "Why", b.Why(), api.OK)
	s.giveBack(b.Gone())
	return b.Root()
}

// forest is the root of a new tree of some levels: so many keys of four bytes, from k000 on by two, with long values.
func forest(t *testing.T, s *room, many int) (int, sheet) {
	t.Helper()
	b := opened(t, s, empty(t, s))
	out := sheet{}
	for i := range many {
		key, value := numbered("k", 2*i, 4), strings.Repeat("v", 60+i%37)
		b.Put([]byte(key), []byte(value))
		out[key] = value
	}
	want(t, "Why", b.Why(), api.OK)
	s.giveBack(b.Gone())
	return b.Root(), out
}

// numbered is a text of so many bytes that ends in a number, with zeros between.
func numbered(head string, n, size int) string {
	out := []byte(head + strings.Repeat("0", size-len(head)))
	for i := size - 1; n > 0; i-- {
		out[i] = byte('0' + n%10)
		n /= 10
	}
	return string(out)
}

// has: a batch that is opened on the root tells just what the sheet has.
func has(t *testing.T, name string, s *room, root int, wanted sheet) {
	t.Helper()
	b := btree.Open(s, root)
	got := texts(b.Range(nil, nil, greatestInt))
	if !slices.Equal(got, wanted.texts()) || b.Why() != api.OK {
		t.Fatalf("%s: %.300q, want %.300q", name, got, wanted.texts())
	}
}

// blocksOf is the blocks of the root's tree; they are rising, and no more than P11.8 says for so many keys.
func blocksOf(t *testing.T, s *room, root, keys int) []int {
	t.Helper()
	out, e := btree.Blocks(s, root)
	want(t, "Blocks", e, api.OK)
	if len(out) < 1 || len(out) > 2*keys+1 || !rising(out) || !slices.Contains(out, root) {
		t.Fatalf("Blocks of %d keys with the root %d: %d, %v", keys, root, len(out), out)
	}
	return out
}

// rising: each is above the one ahead of it.
func rising(l []int) bool {
	for i := 1; i < len(l); i++ {
		if l[i-1] >= l[i] {
			return false
		}
	}
	return true
}

// minus is what of a rising list is not in another.
func minus(l, without []int) []int {
	var out []int
	for _, x := range l {
		if _, is := slices.BinarySearch(without, x); !is {
			out = append(out, x)
		}
	}
	return out
}

// union is what is in one of two lists, or in both, rising.
func union(a, b []int) []int {
	out := slices.Concat(a, b)
	slices.Sort(out)
	return slices.Compact(out)
}

// dice is numbers that look thrown, the same ones each time.
type dice uint64

// below is the next number, of 0 to n - 1.
func (d *dice) below(n int) int {
	*d = *d*6364136223846793005 + 1442695040888963407
	return int(uint64(*d) >> 33 % uint64(n))
}

// shuffled is a list in a drawn order.
func (d *dice) shuffled(l []string) []string {
	out := slices.Clone(l)
	for i := range out {
		j := i + d.below(len(out)-i)
		out[i], out[j] = out[j], out[i]
	}
	return out
}

// spoil writes over all of a list, its spare room too.
func spoil(l []byte) {
	l = l[:cap(l)]
	for i := range l {
		l[i] ^= 0x5a
	}
}
