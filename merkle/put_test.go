package merkle_test

import (
	"maps"
	"math"
	"slices"
	"strings"
	"testing"

	"granary/api"
	"granary/merkle"
)

// TestExampleDigests: the first example, with its digests as values (P17.1, P17.2).
func TestExampleDigests(t *testing.T) {
	count := make([]byte, 300)
	for i := range count {
		count[i] = byte(i % 251)
	}
	for _, c := range []struct {
		name string
		kind byte
		p    string
		want []string
	}{
		{"no bytes", 'F', "", []string{"5a8befb750d742318d14109ec5fbb4d3972a2574407458a74a8f569779e7b3a5"}},
		{"no bytes of a directory", 'D', "", []string{"edaea9ee575444c7ebabbd40fec96d25e3c51ff7e99507e326ac9b43617e4f60"}},
		{"300 bytes of zeros", 'F', zeros(300), []string{
			"481dd2dd83997b17be13fd4049585563bf7c03907d0bdefb7441fa5655f5df78", "53ad1752b607362da7de0d98cc97d4efae1dbff172beb7252d2a246004ab1f58",
			"b562ff477851d77d63b17319993e96b89795c7c0388f873fcecddb895dbdc8b6", "a1f6f858a98803081feac7b0f32b60d79a45fb4a32c2ee4f199d0d7802461f9a",
		}},
		{"300 bytes that count", 'F', string(count), []string{
			"664895fed2e0d231bfe6d6ab7e624a9bd7e0160a2f25d0db4f6108e0496bd54d", "ac3f1c87d4f08008388fe0bb6c3882ea0aa6daf27c28df5f38ede21809ff7a96",
			"20f46d7780b10fa8e5ffbe00916c963cb09be8263125b21ea08082eb7c34f8c6", "5037b357a128b39964ffe577cbea4519d4e2a631466878e6413cc0e7c9be5397",
		}},
	} {
		s := newShelf()
		d := puts(t, s, c.kind, c.p)
		var want []call
		for _, text := range c.want {
			want = append(want, call{'p', hexed(t, text)})
		}
		if got := s.heard(); !slices.Equal(got, want) || d != want[len(want)-1].digest || len(s.plain) != len(want) {
			t.Errorf("%s: %x, puts %x", c.name, d, got)
		}
	}
	s := newShelf()
	if c := s.plain[puts(t, s, 'F', "")]; c != "F"+zeros(40) {
		t.Errorf("the head of no bytes: %x", c)
	}
}

// putsRight: the object's chunks are put, in order, and nothing else is asked for (P17.1, P17.2).
func putsRight(t *testing.T, kind byte, p string) {
	t.Helper()
	s := newShelf()
	d, e := merkle.Put(s, kind, []byte(p))
	want := plainPut(kind, p)
	if e != api.OK || d != digest(want[len(want)-1]) {
		t.Errorf("Put of %d bytes: %x, error %d", len(p), d, e)
	}
	var calls []call
	for _, c := range want {
		calls = append(calls, call{'p', digest(c)})
		if s.plain[digest(c)] != c {
			t.Fatalf("Put of %d bytes: a chunk is not there", len(p))
		}
	}
	if !slices.Equal(s.heard(), calls) {
		t.Errorf("Put of %d bytes: the calls", len(p))
	}
}

// TestPut: each length at which the chunks change, and those about them, of both kinds, with bytes that are unlike, and all alike (P17.1, P17.2).
func TestPut(t *testing.T) {
	t.Parallel()
	for _, n := range edges() {
		for _, by := range []int{-1, 0, 1} {
			if n+by >= 0 {
				putsRight(t, 'F', text(n+by, n))
				putsRight(t, 'D', text(n+by, n))
				putsRight(t, 'F', zeros(n+by))
			}
		}
	}
}

// TestPutEach: every count of leaves that a node of nodes of nodes has, with a last leaf that is whole, or not (P17.1, P17.2).
func TestPutEach(t *testing.T) {
	t.Parallel()
	for leaves := range 140 {
		putsRight(t, 'F', text(leaves*256, leaves))
		putsRight(t, 'F', text(leaves*256+7, leaves))
	}
}

// TestPutForm: how many chunks of which lengths there are, as the chapter's words count them (P17.1).
func TestPutForm(t *testing.T) {
	for _, c := range []struct {
		bytes int
		want  []int // the lengths of the chunks behind the leaves
	}{
		{0, []int{41}}, {1, []int{41}}, {256, []int{41}}, {257, []int{65, 41}}, {2048, []int{257, 41}},
		{2049, []int{257, 65, 41}},                          // the ninth leaf is left alone, and goes up as it is
		{10 * 256, []int{257, 65, 65, 41}},                  // two are left
		{16384, append(repeat(257, 8), 257, 41)},            // eight nodes, and one of them
		{16385, append(repeat(257, 8), 257, 65, 41)},        // the last leaf goes up twice
		{66 * 256, append(repeat(257, 8), 65, 257, 65, 41)}, // the last node goes up once
	} {
		s := newShelf()
		p := text(c.bytes, 1)
		puts(t, s, 'F', p)
		var got []int
		for _, x := range s.heard()[(c.bytes+255)/256:] {
			got = append(got, len(s.plain[x.digest]))
		}
		if !slices.Equal(got, c.want) {
			t.Errorf("%d bytes: chunks of %v, want %v", c.bytes, got, c.want)
		}
	}
}

// repeat is a number so often.
func repeat(x, n int) []int { return slices.Repeat([]int{x}, n) }

// TestPutGreatest: an object of MaxFile bytes, and of one more (P17.2).
func TestPutGreatest(t *testing.T) {
	t.Parallel()
	for _, kind := range []byte{'F', 'D'} {
		putsRight(t, kind, text(api.MaxFile, 1))
		putsRight(t, kind, text(api.MaxFile-1, 1))
		for _, n := range []int{api.MaxFile + 1, 2 * api.MaxFile} {
			s := newShelf()
			if d, e := merkle.Put(s, kind, make([]byte, n)); d != none || e != api.ErrLong || len(s.heard()) != 0 {
				t.Errorf("Put of %d bytes: %x, error %d", n, d, e)
			}
		}
	}
}

// TestPutKinds: every byte that is no kind, also of too many bytes (P17.2).
func TestPutKinds(t *testing.T) {
	long := make([]byte, api.MaxFile+1)
	for kind := range 256 {
		if kind == 'F' || kind == 'D' {
			continue
		}
		for _, p := range [][]byte{nil, {}, []byte("a"), make([]byte, 300), long} {
			s := newShelf()
			if d, e := merkle.Put(s, byte(kind), p); d != none || e != api.ErrArg || len(s.heard()) != 0 {
				t.Errorf("Put of the kind %d: %x, error %d", kind, d, e)
			}
		}
	}
}

// TestPutRefused: a store that refuses any of its calls (P17.2).
func TestPutRefused(t *testing.T) {
	for _, n := range []int{0, 1, 256, 257, 2048, 2049, 2560, 16385} {
		refusedEach(t, "Put", newShelf(), func(s api.Chunks) answer { return putAnswer(merkle.Put(s, 'F', []byte(text(n, 2)))) })
	}
}

// TestNil: each call with a nil store, whatever else is wrong (P17.2 to P17.6).
func TestNil(t *testing.T) {
	d, other := digest("a"), digest("b")
	for _, x := range append(asks(d, span{0, 1}, span{0, -1}, span{9, 0}, span{math.MaxUint64, math.MaxInt}), diffs(d, d), diffs(d, other), diffs(none, none)) {
		if got := x.real(nil); !same(got, answer{err: api.ErrArg}) {
			t.Errorf("%s: %s, want ErrArg", x.name, brief(got))
		}
	}
	for _, kind := range []byte{'F', 'D', 'X'} {
		for _, n := range []int{0, 1, 300, api.MaxFile + 1} {
			if d, e := merkle.Put(nil, kind, make([]byte, n)); d != none || e != api.ErrArg {
				t.Errorf("Put: %x, error %d, want ErrArg", d, e)
			}
		}
	}
	for _, l := range [][]api.Item{nil, {fileItem("a", 3, d)}, {fileItem("..", 3, d)}, {fileItem(strings.Repeat("a", 29), 3, d)}, {{Name: "a"}}, {fileItem("a", 3, none)}} {
		if d, e := merkle.PutDir(nil, l); d != none || e != api.ErrArg {
			t.Errorf("PutDir: %x, error %d, want ErrArg", d, e)
		}
	}
}

// TestOneDigest: what is the same has one digest, and lies there once (P17.7).
func TestOneDigest(t *testing.T) {
	for _, n := range edges() {
		s := newShelf()
		p := text(n, 3)
		d := puts(t, s, 'F', p)
		kept := maps.Clone(s.plain)
		if again := puts(t, s, 'F', p); again != d || !maps.Equal(s.plain, kept) {
			t.Errorf("%d bytes again: another digest, or other chunks", n)
		}
		if other := puts(t, s, 'D', p); other == d || len(s.plain) != len(kept)+1 {
			t.Errorf("%d bytes of the other kind: the same digest, or chunks but the head", n)
		}
		if other := puts(t, newShelf(), 'F', p); other != d {
			t.Errorf("%d bytes elsewhere: another digest", n)
		}
	}
}

// TestOtherBytes: one byte that is another changes the digest, and no more chunks than those above it (P17.1, P17.7).
func TestOtherBytes(t *testing.T) {
	const n = 16385
	s := newShelf()
	p := text(n, 4)
	d := puts(t, s, 'F', p)
	for _, at := range []int{0, 255, 256, 2047, 2048, 16383, 16384} {
		other := on(s.plain)
		q := []byte(p)
		q[at]++
		if puts(t, other, 'F', string(q)) == d {
			t.Errorf("a byte at %d: the same digest", at)
		}
		above := 5 // the leaf, two nodes, the one of all, the head
		if at == 16384 {
			above = 3
		}
		if len(other.plain) != len(s.plain)+above {
			t.Errorf("a byte at %d: %d chunks more, want %d", at, len(other.plain)-len(s.plain), above)
		}
	}
	for _, q := range []string{p[:n-1], p + "\x00", zeros(n)} {
		if puts(t, newShelf(), 'F', q) == d {
			t.Errorf("other bytes have the same digest")
		}
	}
}
