package merkle_test

import (
	"cmp"
	"math"
	"slices"
	"testing"

	"granary/api"
	"granary/merkle"
)

// heads is bytes that are heads but for one part, and some that are.
func heads() []string {
	d := digest("a")
	root := string(d[:])
	out := []string{"", "F", "D", "L", "N", zeros(41), "F" + zeros(39), "F" + zeros(41), "D" + zeros(40), "F" + zeros(40)}
	for _, kind := range []byte{'F', 'D', 'f', 'd', 'L', 'N', 'X', 0, 255} {
		for _, size := range []uint64{0, 1, 255, 256, 257, api.MaxFile, api.MaxFile + 1, 1 << 32, 1<<32 + 1, 1 << 63, 1<<56 + 7, math.MaxUint64} {
			for _, behind := range []string{root, zeros(32), root[1:], root + "a", root + root, zeros(31), zeros(33), zeros(31) + "\x01", "\x01" + zeros(31), ""} {
				out = append(out, plainHead(kind, size, behind))
			}
		}
	}
	return out
}

// TestSize: of heads, each part of which is another (P17.3).
func TestSize(t *testing.T) {
	s := newShelf()
	right := 0
	for _, c := range heads() {
		d := s.lay(c)
		agrees(t, s, asks(d, span{0, 0}, span{0, 1})...)
		if _, _, e := merkle.Size(s, d); e == api.OK {
			right++
		}
	}
	if right < 12 {
		t.Errorf("Size takes %d heads alone", right)
	}
}

// TestSizeOf: of what Put has put, with its leaves, nodes, and what is not there (P17.3).
func TestSizeOf(t *testing.T) {
	for _, kind := range []byte{'F', 'D'} {
		for _, n := range append(edges(), api.MaxFile) {
			s := newShelf()
			d := puts(t, s, kind, zeros(n))
			if k, size, e := merkle.Size(s, d); k != kind || size != uint64(n) || e != api.OK {
				t.Errorf("Size of %d bytes: %c, %d, error %d", n, k, size, e)
			}
			s.heard()
			merkle.Size(s, d)
			if got := s.heard(); !slices.Equal(got, []call{{'g', d}}) {
				t.Errorf("Size reads %d chunks", len(got))
			}
			for part := range s.plain {
				if part == d {
					continue
				}
				if k, size, e := merkle.Size(s, part); k != 0 || size != 0 || e != api.ErrObject {
					t.Errorf("Size of a leaf or node: %c, %d, error %d", k, size, e)
				}
			}
			delete(s.plain, d)
			if k, size, e := merkle.Size(s, d); k != 0 || size != 0 || e != api.ErrNone {
				t.Errorf("Size of what is not there: %c, %d, error %d", k, size, e)
			}
		}
	}
}

// TestReadRefusals: a store that refuses any of its calls (P17.3).
func TestReadRefusals(t *testing.T) {
	s := newShelf()
	for _, n := range []int{0, 1, 257, 2049, 16385} {
		d := puts(t, s, 'F', text(n, 2))
		for _, x := range []ask{asks(d)[0], reads(d, 0, 1<<20), reads(d, uint64(n/2), 300), reads(d, 0, 0)} {
			refusedEach(t, x.name, s, x.real)
		}
	}
}

// places is where a read of so many bytes may begin or end.
func places(n int) []uint64 {
	out := []uint64{0, 1, math.MaxUint64, math.MaxUint64 - 1, 1 << 63, 1<<63 - 1, 1 << 32, api.MaxFile, api.MaxFile + 1}
	for _, at := range []int{255, 256, 257, 511, 512, 2047, 2048, 2049, 4096, 16383, 16384, 16385, n / 2, n - 257, n - 256, n - 255, n - 1, n, n + 1, n + 300} {
		if at >= 0 {
			out = append(out, uint64(at))
		}
	}
	slices.Sort(out)
	return slices.Compact(out)
}

// TestRead: from each edge on, up to each edge, of objects of each depth: the bytes, and what is read (P17.3, P17.8, P17.9).
func TestRead(t *testing.T) {
	t.Parallel()
	for _, n := range []int{0, 1, 256, 257, 600, 2048, 2049, 2305, 16384, 16385, 18433} {
		s := newShelf()
		p := text(n, n)
		d := puts(t, s, 'F', p)
		for _, at := range places(n) {
			lengths := []int{0, 1, 2, 255, 256, 257, 300, n, math.MaxInt, math.MaxInt - 1, math.MinInt, -1, -256}
			for _, to := range places(n) {
				if to >= at && to-at < 1<<62 {
					lengths = append(lengths, int(to-at))
				}
			}
			for _, many := range lengths {
				readsRight(t, s, d, p, at, many)
			}
		}
	}
}

// readsRight: Read answers what the account does, from the chunks that have a part in it alone, each read once, and these are no more than P17.9 says.
func readsRight(t *testing.T, s *shelf, d api.Digest, p string, at uint64, n int) {
	t.Helper()
	s.heard()
	got, e := merkle.Read(s, d, at, n)
	bytes, has, why := s.read(d, at, n)
	if string(got) != bytes || e != why {
		t.Errorf("Read of %d at %d of %d: %d bytes, error %d, want %d, %d", n, at, len(p), len(got), e, len(bytes), why)
	}
	if e == api.OK && at < uint64(len(p)) && string(got) != p[at:at+uint64(min(n, len(p)-int(at)))] {
		t.Errorf("Read of %d at %d of %d: other bytes", n, at, len(p))
	}
	leaves, nodes := 0, 0
	var asked []api.Digest
	for _, c := range s.heard() {
		asked = append(asked, c.digest)
		switch s.plain[c.digest][0] {
		case 'L':
			leaves++
		case 'N':
			nodes++
		}
	}
	order := func(a, b api.Digest) int { return cmp.Compare(string(a[:]), string(b[:])) }
	slices.SortFunc(asked, order)
	slices.SortFunc(has, order)
	if !slices.Equal(asked, has) {
		t.Errorf("Read of %d at %d of %d: %d chunks are read, %d have a part", n, at, len(p), len(asked), len(has))
	}
	if n >= 0 && (leaves > n/256+2 || nodes > 8*leaves || len(asked) != leaves+nodes+1) {
		t.Errorf("Read of %d at %d of %d: %d leaves, %d nodes, %d chunks", n, at, len(p), leaves, nodes, len(asked))
	}
}

// TestReadGreatest: of an object of MaxFile bytes (P17.3, P17.9).
func TestReadGreatest(t *testing.T) {
	t.Parallel()
	for _, n := range []int{api.MaxFile, api.MaxFile - 1, 131073, 262145} {
		s := newShelf()
		p := text(n, 5)
		d := puts(t, s, 'F', p)
		dice := dice(n)
		for range 300 {
			readsRight(t, s, d, p, uint64(dice.below(n)), dice.below(5000))
		}
		for _, at := range places(n) {
			readsRight(t, s, d, p, at, 300)
		}
		readsRight(t, s, d, p, 0, n)
	}
}

// TestExampleRead: the second example (P17.3, P17.5).
func TestExampleRead(t *testing.T) {
	s := newShelf()
	p := text(300, 6)
	d := puts(t, s, 'F', p)
	chunks := plainPut('F', p)
	l, e := merkle.Reach(s, d)
	if want := []api.Digest{d, digest(chunks[2]), digest(chunks[0]), digest(chunks[1])}; !slices.Equal(l, want) || e != api.OK {
		t.Errorf("Reach: %x, error %d", l, e)
	}
	if kind, n, e := merkle.Size(s, d); kind != 'F' || n != 300 || e != api.OK {
		t.Errorf("Size: %c, %d, error %d", kind, n, e)
	}
	if got, e := merkle.Read(s, d, 250, 10); string(got) != p[250:260] || e != api.OK {
		t.Errorf("Read: %x, error %d", got, e)
	}
	s.heard()
	if got, e := merkle.Read(s, d, 256, 9); string(got) != p[256:265] || e != api.OK || len(s.heard()) != 3 {
		t.Errorf("Read behind the first leaf: %x, error %d, or other chunks", got, e)
	}
}

// forms is bytes that may stand where a chunk must be: each kind of chunk, with one part too few and too many, of none.
func forms(c string) []string {
	d := digest("a")
	out := []string{"", "L", "N", "X", "La", "L" + zeros(256), "L" + zeros(257), plainNode(d), plainNode(d, d), plainNode(slices.Repeat([]api.Digest{d}, 8)...), plainNode(slices.Repeat([]api.Digest{d}, 9)...), "F" + zeros(40), plainHead('F', 300, string(d[:]))}
	if c != "" {
		out = append(out, c[:len(c)-1], c+"a", c[1:], "X"+c[1:], "N"+c[1:], "L"+c[1:], "F"+c[1:], "D"+c[1:])
	}
	if len(c) > 32 {
		out = append(out, c[:len(c)-32], c+string(d[:]), c[:len(c)-1]+"!")
	}
	return out
}

// TestReadWrong: each chunk of an object is another one, or is not there: what has a part in it is told, all else is read as before (P17.3).
func TestReadWrong(t *testing.T) {
	t.Parallel()
	for _, n := range []int{1, 256, 300, 2048, 2049, 2305, 16385} {
		s := newShelf()
		p := text(n, n)
		d := puts(t, s, 'F', p)
		spans := []span{{0, n}, {0, 1}, {uint64(n - 1), 1}, {uint64(n / 2), 300}, {0, 256}, {256, 256}, {uint64(n), 5}}
		var others []string
		for _, c := range s.plain {
			others = append(others, c)
		}
		slices.Sort(others)
		if n > 3000 {
			others = append(others[:2], others[len(others)-9:]...)
		}
		for part, c := range s.plain {
			hurt := on(s.plain)
			for _, other := range append(forms(c), others...) {
				hurt.plain[part] = other
				for _, x := range spans {
					agrees(t, hurt, reads(d, x.at, x.n))
				}
			}
			delete(hurt.plain, part)
			for _, x := range spans {
				agrees(t, hurt, reads(d, x.at, x.n))
			}
		}
	}
}

// TestReadBoth: the store's error comes ahead of a chunk that is none, wherever both are (P17.3).
func TestReadBoth(t *testing.T) {
	p := text(2305, 1)
	chunks := plainPut('F', p)
	parts := len(chunks) - 1
	for wrong := range parts {
		for lost := range parts {
			s := newShelf()
			d := puts(t, s, 'F', p)
			s.plain[digest(chunks[wrong])] = "X"
			delete(s.plain, digest(chunks[lost]))
			agrees(t, s, asks(d, span{0, 3000}, span{0, 2048}, span{256, 512}, span{2048, 9})...)
		}
	}
	s := newShelf()
	d := puts(t, s, 'F', p)
	s.plain[digest(chunks[0])] = "X"
	delete(s.plain, digest(chunks[1]))
	for _, c := range []struct {
		at   uint64
		n    int
		want api.Errno
	}{{0, 256, api.ErrObject}, {0, 257, api.ErrNone}, {255, 2, api.ErrNone}, {256, 1, api.ErrNone}, {512, 9, api.OK}, {0, -1, api.ErrArg}} {
		_, e := merkle.Read(s, d, c.at, c.n)
		want(t, "a leaf that is wrong, and one that is lost", e, c.want)
	}
}

// TestReadOrder: an n below 0 comes ahead of all else, also of a digest that is not there (P17.3).
func TestReadOrder(t *testing.T) {
	s := newShelf()
	for _, d := range []api.Digest{none, digest("a"), s.lay("X"), s.lay("La"), s.put('F', "a")} {
		for _, n := range []int{-1, math.MinInt} {
			agrees(t, s, reads(d, 0, n), reads(d, math.MaxUint64, n))
			if p, e := merkle.Read(s, d, 0, n); p != nil || e != api.ErrArg || len(s.heard()) != 0 {
				t.Errorf("Read of %d: %x, error %d", n, p, e)
			}
		}
		agrees(t, s, reads(d, 0, 0), reads(d, 0, 1), reads(d, 9, 1))
	}
}
