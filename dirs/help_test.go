package dirs_test

import (
	"bytes"
	"maps"
	"slices"
	"strings"
	"testing"

	"granary/api"
	"granary/btree"
)

// Numbers at the edges of their kind.
const (
	leastInt    = -1 << 63
	greatestInt = 1<<63 - 1
	greatest    = 1<<64 - 1
)

// errRefused is an error of a space that nobody else has.
const errRefused api.Errno = 977

// room is a space in memory that counts its calls, and refuses what it is told to.
type room struct {
	blocks map[int][]byte
	made   int
	most   int            // how many blocks there are
	calls  map[string]int // how often it was called
	refuse map[string]int // which call of these it refuses; 0: none
	why    api.Errno      // with which error
	done   int            // how often it has refused
}

// newRoom is a space of so many blocks.
func newRoom(most int) *room {
	return &room{blocks: map[int][]byte{}, most: most, calls: map[string]int{}, refuse: map[string]int{}, why: errRefused}
}

// wide is a space with more blocks than any test needs.
func wide() *room { return newRoom(greatestInt) }

// refuses counts a call, and says whether it is refused.
func (s *room) refuses(call string) bool {
	s.calls[call]++
	if s.calls[call] != s.refuse[call] {
		return false
	}
	s.done++
	return true
}

// refuseNext: of the calls from now on the n-th of that name is refused.
func (s *room) refuseNext(call string, n int, why api.Errno) {
	s.refuse[call], s.why, s.done = s.calls[call]+n, why, 0
}

// changes is how many calls there were that change something.
func (s *room) changes() int { return s.calls["Take"] + s.calls["Write"] + s.calls["Give"] }

// Read is api.Space's.
func (s *room) Read(b int) ([]byte, api.Errno) {
	p, is := s.blocks[b]
	switch {
	case s.refuses("Read"):
		return nil, s.why
	case !is:
		return nil, api.ErrArg
	}
	return bytes.Clone(p), api.OK
}

// Write is api.Space's.
func (s *room) Write(b int, p []byte) api.Errno {
	_, is := s.blocks[b]
	switch {
	case s.refuses("Write"):
		return s.why
	case !is || len(p) != api.BlockBytes:
		return api.ErrArg
	}
	s.blocks[b] = bytes.Clone(p)
	return api.OK
}

// Take is api.Space's.
func (s *room) Take() (int, api.Errno) {
	switch {
	case s.refuses("Take"):
		return 0, s.why
	case len(s.blocks) >= s.most:
		return 0, api.ErrSpace
	}
	s.made++
	s.blocks[s.made] = make([]byte, api.BlockBytes)
	return s.made, api.OK
}

// Give is api.Space's.
func (s *room) Give(b int) api.Errno {
	_, is := s.blocks[b]
	switch {
	case s.refuses("Give"):
		return s.why
	case !is:
		return api.ErrArg
	}
	delete(s.blocks, b)
	return api.OK
}

// bytes is what all blocks have.
func (s *room) bytes() map[int]string {
	out := map[int]string{}
	for b, p := range s.blocks {
		out[b] = string(p)
	}
	return out
}

// giveBack gives back blocks that nobody needs any more.
func (s *room) giveBack(t *testing.T, blocks []int) {
	t.Helper()
	for _, b := range blocks {
		want(t, "Give", s.Give(b), api.OK)
	}
}

// want: the error, and no other.
func want(t *testing.T, name string, got, e api.Errno) {
	t.Helper()
	if got != e {
		t.Errorf("%s: error %d, want %d", name, got, e)
	}
}

// told: the list, in this order.
func told[T comparable](t *testing.T, name string, got []T, wanted ...T) {
	t.Helper()
	if !slices.Equal(got, wanted) {
		t.Errorf("%s: %.500v, want %.500v", name, got, wanted)
	}
}

// empty is the root of a new tree.
func empty(t *testing.T, s *room) int {
	t.Helper()
	root, e := btree.Empty(s)
	if e != api.OK {
		t.Fatalf("Empty: error %d", e)
	}
	return root
}

// fresh is a batch on a new tree, in a space of its own.
func fresh(t *testing.T) *btree.Batch {
	t.Helper()
	s := wide()
	return btree.Open(s, empty(t, s))
}

// others is keys that belong to others, and what they have: all kinds of beginnings, and those just beside the package's own.
func others() map[string]string {
	out := map[string]string{}
	for _, head := range []string{"\x00", "D", "N", "a", "b", "e", "i", "m", "o", "z", "\xff"} {
		for _, rest := range []string{"", "\x00", strings.Repeat("\x00", 8), strings.Repeat("\xff", 8), strings.Repeat("\xff", api.MaxKey-1)} {
			out[head+rest] = "of " + head
		}
	}
	return out
}

// theirs is what keys have that do not begin with n, c or d.
func theirs(b *btree.Batch) map[string]string {
	out := map[string]string{}
	for _, p := range b.Range(nil, nil, greatestInt) {
		if !isOwn(p.Key) {
			out[string(p.Key)] = string(p.Value)
		}
	}
	return out
}

// owns is how many keys begin with n, c or d.
func owns(b *btree.Batch) int {
	many := 0
	for _, p := range b.Range(nil, nil, greatestInt) {
		if isOwn(p.Key) {
			many++
		}
	}
	return many
}

// isOwn: the key begins with n, c or d.
func isOwn(key []byte) bool { return bytes.ContainsAny(key[:1], "ncd") }

// whole is all pairs of a batch's tree.
func whole(b *btree.Batch) map[string]string {
	out := map[string]string{}
	for _, p := range b.Range(nil, nil, greatestInt) {
		out[string(p.Key)] = string(p.Value)
	}
	return out
}

// unlike is one of the keys that have not the same in both.
func unlike(a, b map[string]string) string {
	for _, k := range slices.Sorted(maps.Keys(a)) {
		if v, is := b[k]; !is || v != a[k] {
			return k
		}
	}
	for _, k := range slices.Sorted(maps.Keys(b)) {
		if _, is := a[k]; !is {
			return k
		}
	}
	return ""
}

// numbered is a name with a number in it, with zeros ahead.
func numbered(head string, n, size int) string {
	out := []byte(head + strings.Repeat("0", size))
	for i := len(out) - 1; n > 0; i-- {
		out[i] = byte('0' + n%10)
		n /= 10
	}
	return string(out)
}

// dice is numbers that look thrown, the same ones each time.
type dice uint64

// below is the next number, of 0 to n - 1.
func (d *dice) below(n int) int {
	*d = *d*6364136223846793005 + 1442695040888963407
	return int(uint64(*d) >> 33 % uint64(n))
}

// one is a drawn element of the list.
func one[T any](d *dice, l []T) T { return l[d.below(len(l))] }
