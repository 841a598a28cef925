package fsops_test

import (
	"bytes"
	"errors"
	"fmt"
	"maps"
	"slices"
	"strings"
	"testing"

	"granary/api"
	"granary/fsops"
)

// Numbers at the edges of their kind.
const (
	leastInt    = -1 << 63
	greatestInt = 1<<63 - 1
	greatest    = 1<<64 - 1
)

// size is how many bytes a piece has.
const size = api.BlockBytes

// errRefused is an error of a space that nobody else has.
const errRefused api.Errno = 977

// room is a space in memory. What is taken of it has any bytes at first; blocks that are frozen may neither be written nor given back; and it refuses what it is told to.
type room struct {
	t       *testing.T
	blocks  map[int][]byte
	free    []int // what was given back: it is given out again, the last first
	made    int
	most    int              // how many blocks there are
	peak    int              // how many were taken at once
	called  func(i int) int  // the number of the block that is made as the i-th
	bare    bool             // Read hands out its own memory
	frozen  map[int]struct{} // blocks that belong to a tree that is to stay
	calls   map[string]int   // how often it was called
	refuse  map[string]int   // which call of these it refuses; 0: none, below 0: each
	refused int              // how often it has
	why     api.Errno        // with which error
}

// newRoom is a space of so many blocks.
func newRoom(t *testing.T, most int) *room {
	return &room{
		t: t, most: most, called: func(i int) int { return i - 1 }, why: errRefused,
		blocks: map[int][]byte{}, frozen: map[int]struct{}{}, calls: map[string]int{}, refuse: map[string]int{},
	}
}

// wide is a space with more blocks than any test needs.
func wide(t *testing.T) *room { return newRoom(t, greatestInt) }

// strange is a space whose blocks have numbers from all ends of the ints, and whose Read hands out its own memory.
func strange(t *testing.T) *room {
	s := wide(t)
	s.bare = true
	s.called = func(i int) int {
		switch i % 4 {
		case 0:
			return -i
		case 1:
			return leastInt + i
		case 2:
			return greatestInt - i
		}
		return 1<<32 + i
	}
	return s
}

// spaces is a space of each kind.
func spaces(t *testing.T) []*room { return []*room{wide(t), strange(t)} }

// refuses counts a call, and says whether it is refused.
func (s *room) refuses(call string) bool {
	s.calls[call]++
	if n := s.refuse[call]; n == 0 || n > 0 && n != s.calls[call] {
		return false
	}
	s.refused++
	return true
}

// refuseNext: of the calls from now on the n-th of that name is refused; below 0: each; 0: none.
func (s *room) refuseNext(call string, n int, why api.Errno) {
	if n > 0 {
		n += s.calls[call]
	}
	s.refuse[call], s.why, s.refused = n, why, 0
}

// willing: nothing is refused any more.
func (s *room) willing() { clear(s.refuse) }

// Read is api.Space's.
func (s *room) Read(b int) ([]byte, api.Errno) {
	p, is := s.blocks[b]
	switch {
	case s.refuses("Read"):
		return nil, s.why
	case !is:
		s.t.Errorf("the block %d is read, and is not taken", b)
		return nil, api.ErrArg
	case s.bare:
		return p, api.OK
	}
	return bytes.Clone(p), api.OK
}

// Write is api.Space's.
func (s *room) Write(b int, p []byte) api.Errno {
	if _, is := s.frozen[b]; is {
		s.t.Errorf("the block %d is written, and belongs to an older tree", b)
	}
	old, is := s.blocks[b]
	switch {
	case s.refuses("Write"):
		return s.why
	case !is:
		s.t.Errorf("the block %d is written, and is not taken", b)
		return api.ErrArg
	case len(p) > api.BlockBytes:
		return api.ErrLong
	}
	n := copy(old, p)
	clear(old[n:])
	return api.OK
}

// Take is api.Space's.
func (s *room) Take() (int, api.Errno) {
	switch {
	case s.refuses("Take"):
		return 0, s.why
	case len(s.blocks) >= s.most:
		return 0, api.ErrSpace
	}
	var b int
	if at := len(s.free) - 1; at >= 0 {
		b, s.free = s.free[at], s.free[:at]
	} else {
		s.made++
		b = s.called(s.made)
	}
	s.blocks[b] = bytes.Repeat([]byte{0xee}, api.BlockBytes)
	s.peak = max(s.peak, len(s.blocks))
	return b, api.OK
}

// Give is api.Space's.
func (s *room) Give(b int) api.Errno {
	if _, is := s.frozen[b]; is {
		s.t.Errorf("the block %d is given back, and belongs to an older tree", b)
	}
	if s.refuses("Give") {
		return s.why
	}
	if _, is := s.blocks[b]; !is {
		s.t.Errorf("the block %d is given back, and is not taken", b)
		return api.ErrArg
	}
	delete(s.blocks, b)
	s.free = append(s.free, b)
	return api.OK
}

// taken is the blocks that are taken, rising.
func (s *room) taken() []int { return slices.Sorted(maps.Keys(s.blocks)) }

// freeze: of all that is taken nothing may be changed, but what is thawed.
func (s *room) freeze() {
	for b := range s.blocks {
		s.frozen[b] = struct{}{}
	}
}

// giveBack gives blocks back that nobody needs any more.
func (s *room) giveBack(blocks []int) {
	s.t.Helper()
	for _, b := range blocks {
		delete(s.frozen, b)
		if e := s.Give(b); e != api.OK {
			s.t.Errorf("Give of %d: error %d", b, e)
		}
	}
}

// want: the error, and no other.
func want(t *testing.T, name string, got, e api.Errno) {
	t.Helper()
	if got != e {
		t.Errorf("%s: error %d, want %d", name, got, e)
	}
}

// told: the list, in this order.
func told[T comparable](t *testing.T, name string, got []T, wanted ...T) {
	t.Helper()
	if !slices.Equal(got, wanted) {
		t.Errorf("%s: %s, want %s", name, brief(got), brief(wanted))
	}
}

// brief is a value as text, of which the beginning is enough.
func brief(v any) string {
	out := fmt.Sprintf("%+v", v)
	return out[:min(len(out), 600)]
}

// minus is what of a rising list is not in another.
func minus(l, without []int) []int {
	var out []int
	for _, x := range l {
		if _, is := slices.BinarySearch(without, x); !is {
			out = append(out, x)
		}
	}
	return out
}

// union is what is in one of the lists, or in several, rising.
func union(lists ...[]int) []int {
	out := slices.Concat(lists...)
	slices.Sort(out)
	return slices.Compact(out)
}

// text is n bytes, none of them 0, of which neighbouring ones are unlike; each first one makes another text.
func text(first, n int) string {
	out := make([]byte, n)
	for i := range out {
		out[i] = byte(1 + (first+i)%255)
	}
	return string(out)
}

// long is a name of n bytes.
func long(n int) string { return strings.Repeat("n", n) }

// dice is numbers that look thrown, the same ones each time.
type dice uint64

// below is the next number, of 0 to n - 1.
func (d *dice) below(n int) int {
	*d = *d*6364136223846793005 + 1442695040888963407
	return int(uint64(*d) >> 33 % uint64(n))
}

// one is a drawn element of the list.
func one[T any](d *dice, l []T) T { return l[d.below(len(l))] }

// formatted is the root of a new tree.
func formatted(t *testing.T, s api.Space, now uint64) int {
	t.Helper()
	root, err := fsops.Format(s, now)
	if err != nil {
		t.Fatalf("Format: %v", err)
	}
	return root
}

// opened is the FS of the root.
func opened(t *testing.T, s api.Space, root int) *fsops.FS {
	t.Helper()
	f, err := fsops.Open(s, root)
	if err != nil || f == nil {
		t.Fatalf("Open: %v", err)
	}
	return f
}

// viewed is the view of the root.
func viewed(t *testing.T, s api.Space, root int, fs uint32) *fsops.FS {
	t.Helper()
	f, err := fsops.View(s, root, fs)
	if err != nil || f == nil {
		t.Fatalf("View: %v", err)
	}
	return f
}

// why is the Errno of a call's error, which is of the form that the chapter names.
func why(t *testing.T, err error, op, name string) api.Errno {
	t.Helper()
	if err == nil {
		want(t, "Code of none", fsops.Code(err), api.OK)
		return api.OK
	}
	x, is := err.(*api.FsError)
	if !is || x == nil {
		t.Fatalf("%s: an error %#v", op, err)
	}
	e, is := x.Err.(api.Errno)
	if !is || e == api.OK || x.Op != op || x.Name != name {
		t.Fatalf("%s of %q: an error %#v", op, name, x)
	}
	var number api.Errno
	var whole *api.FsError
	switch {
	case !errors.Is(err, e) || errors.Is(err, e+1):
		t.Fatalf("errors.Is does not find %d in %v", e, err)
	case !errors.As(err, &number) || number != e:
		t.Fatalf("errors.As finds %d in %v", number, err)
	case !errors.As(err, &whole) || whole != x:
		t.Fatalf("errors.As does not find %v itself", err)
	case err.Error() != fmt.Sprintf("%s %s: error %d", op, name, int(e)):
		t.Fatalf("an error's text: %s", err)
	}
	want(t, "Code of "+err.Error(), fsops.Code(err), e)
	return e
}
