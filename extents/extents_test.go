package extents_test

import (
	"testing"

	"granary/api"
	"granary/btree"
	"granary/extents"
)

// TestExamples: those of the chapter.
func TestExamples(t *testing.T) {
	x := begun(t, wide(t))
	c := x.c
	c.Write(7, 500, []byte("x"))
	told(t, "Pieces", c.Pieces(7), 1)
	if p := c.Read(7, 499, 3); string(p) != "\x00\x78\x00" {
		t.Errorf("Read: % x", p)
	}
	c.Cut(7, 501)
	told(t, "Pieces", c.Pieces(7), 1)
	if p := c.Read(7, 499, 3); string(p) != "\x00\x78\x00" {
		t.Errorf("Read behind Cut(7, 501): % x", p)
	}
	c.Cut(7, 500)
	told(t, "Pieces", c.Pieces(7), 1)
	if p := c.Read(7, 499, 3); string(p) != "\x00\x00\x00" {
		t.Errorf("Read behind Cut(7, 500): % x", p)
	}
	c.Cut(7, 384)
	told(t, "Pieces", c.Pieces(7))
	c.Write(7, 0, make([]byte, 800))
	told(t, "Pieces", c.Pieces(7), 0, 1, 2)
	c.Write(7, 1920, []byte("y"))
	told(t, "Pieces", c.Pieces(7), 0, 1, 2, 5)
	told(t, "Stretches", c.Stretches(7), [2]int{0, 3}, [2]int{5, 1})
	want(t, "Why", c.Why(), api.OK)
	c.Write(7, 1048576, []byte("z"))
	want(t, "Why", c.Why(), api.ErrLong)
}

// TestOpen: nil, where the batch or the space is (P14.1); else as the tree is.
func TestOpen(t *testing.T) {
	s := wide(t)
	b := btree.Open(s, planted(t, s))
	if extents.Open(nil, s) != nil || extents.Open(b, nil) != nil || extents.Open(nil, nil) != nil {
		t.Errorf("contents of no batch, or no space")
	}
	asked := s.asked()
	c := extents.Open(b, s)
	if c == nil || s.asked() != asked {
		t.Fatalf("Open: %v, and %d calls", c, s.asked()-asked)
	}
	want(t, "Why", c.Why(), api.OK)
}

// TestOpenOfChanged: the tree of Open is the batch's as it is by then, also with what other contents have changed in the same batch (P14.1, P14.6).
func TestOpenOfChanged(t *testing.T) {
	for _, s := range spaces(t) {
		x := begun(t, s)
		x.b.Put([]byte("y"), []byte("other"))
		x.b.Put([]byte("y"), []byte(others()["y"]))
		x.do(call{kind: "Write", ino: 1, at: 100, p: text(1, 1000)}, call{kind: "Write", ino: 2, at: 0, p: "a"})
		x.held()
		old := x.c.Blocks()
		s.freeze()
		for _, block := range x.b.Fresh() {
			delete(s.frozen, block)
		}
		c, a := extents.Open(x.b, s), newAccount(x.a.now)
		told(t, "Blocks", c.Blocks(), old...)
		told(t, "Gone", c.Gone())
		told(t, "Fresh", c.Fresh())
		for _, do := range []call{{kind: "Write", ino: 1, at: 400, p: "b"}, {kind: "Cut", ino: 1, at: 800}, {kind: "Drop", ino: 2}, {kind: "Read", ino: 1, n: 1200}, {kind: "Numbers"}} {
			if got, wanted := really(x.b, c, do), a.plainly(do); got != wanted {
				t.Fatalf("%+v: %s, want %s", do, got, wanted)
			}
		}
		told(t, "Gone", c.Gone(), minus(old, c.Blocks())...)
		told(t, "Fresh", c.Fresh(), minus(c.Blocks(), old)...)
		if len(c.Gone()) != 3 || len(c.Fresh()) != 2 {
			t.Errorf("Gone %v, Fresh %v", c.Gone(), c.Fresh())
		}
		told(t, "what is taken", s.taken(), union(x.taken, x.b.Fresh(), old, c.Fresh())...)
	}
}

// TestNil: every call on nil Contents (P14.7).
func TestNil(t *testing.T) {
	var c *extents.Contents
	for _, at := range []uint64{0, 1, api.MaxFile, api.MaxFile + 1, greatest} {
		for _, n := range []int{leastInt, -1, 0, 1, greatestInt} {
			if p := c.Read(7, at, n); len(p) != 0 {
				t.Errorf("Read: %q", p)
			}
		}
		for _, p := range append(noBytes(), []byte("a")) {
			c.Write(7, at, p)
			want(t, "Why", c.Why(), api.OK)
		}
		c.Cut(7, at)
		c.Drop(at)
		if n := c.Count(at); n != 0 {
			t.Errorf("Count: %d", n)
		}
		told(t, "Pieces", c.Pieces(at))
		told(t, "Stretches", c.Stretches(at))
	}
	told(t, "Numbers", c.Numbers())
	told(t, "Blocks", c.Blocks())
	told(t, "Gone", c.Gone())
	told(t, "Fresh", c.Fresh())
	want(t, "Why", c.Why(), api.OK)
	want(t, "Abort", c.Abort(), api.OK)
}

// borders is places at, and one or two below and above, the borders of the first pieces.
func borders(pieces int) []uint64 {
	var out []uint64
	for i := range pieces + 1 {
		for beside := -2; beside <= 2; beside++ {
			if at := i*size + beside; at >= 0 {
				out = append(out, uint64(at))
			}
		}
	}
	return append(out, 100, size+100, 2*size+383)
}

// holey is both, on a tree with a content 7 of which the pieces 1, 2 and 4 and the last one are there, and neighbours of it.
func holey(t *testing.T, s *room) both {
	t.Helper()
	x := begun(t, s)
	x.do(call{kind: "Write", ino: 7, at: 400, p: text(1, 700)}, call{kind: "Write", ino: 7, at: 4*size + 5, p: text(2, 9)})
	x.do(call{kind: "Write", ino: 7, at: api.MaxFile - 10, p: text(3, 10)})
	x.do(call{kind: "Write", ino: 6, at: 0, p: text(4, 3*size)}, call{kind: "Write", ino: 8, at: 0, p: text(5, 3*size)})
	x.held()
	return x.settled()
}

// TestRead: between any two places beside borders, within and across pieces that are there and holes (P14.2).
func TestRead(t *testing.T) {
	for _, s := range spaces(t) {
		x := holey(t, s)
		changes := s.changes()
		for _, ino := range []uint64{7, 9} {
			for _, from := range borders(6) {
				for _, to := range borders(6) {
					if from <= to {
						x.do(call{kind: "Read", ino: ino, at: from, n: int(to - from)})
					}
				}
			}
			x.do(call{kind: "Read", ino: ino, n: api.MaxFile}, call{kind: "Read", ino: ino, at: 1, n: api.MaxFile - 1})
			for n := range 20 {
				x.do(call{kind: "Read", ino: ino, at: uint64(api.MaxFile - n), n: n}, call{kind: "Read", ino: ino, at: uint64(api.MaxFile - 2*n), n: n})
			}
		}
		if s.changes() != changes {
			t.Errorf("Read has changed something")
		}
		x.held()
	}
}

// TestReadsErrors: which there are, and which is told first (P14.2).
func TestReadsErrors(t *testing.T) {
	s := wide(t)
	x := holey(t, s)
	for _, c := range []struct {
		at uint64
		n  int
		e  api.Errno
	}{
		{0, -1, api.ErrArg}, {0, leastInt, api.ErrArg}, {api.MaxFile + 1, -1, api.ErrArg}, {greatest, leastInt, api.ErrArg}, {greatest, -1, api.ErrArg},
		{0, 0, api.OK}, {0, api.MaxFile, api.OK}, {0, api.MaxFile + 1, api.ErrLong}, {1, api.MaxFile, api.ErrLong}, {api.MaxFile - 1, 1, api.OK},
		{api.MaxFile - 1, 2, api.ErrLong}, {api.MaxFile, 0, api.OK}, {api.MaxFile, 1, api.ErrLong}, {api.MaxFile + 1, 0, api.ErrLong}, {api.MaxFile + 1, 1, api.ErrLong},
		{0, greatestInt, api.ErrLong}, {1, greatestInt, api.ErrLong}, {greatest, 0, api.ErrLong}, {greatest, 1, api.ErrLong}, {greatest, greatestInt, api.ErrLong},
		{1 << 63, greatestInt, api.ErrLong}, {1<<64 - 100, 200, api.ErrLong}, {greatest - api.MaxFile, api.MaxFile, api.ErrLong}, {greatest - greatestInt + 1, greatestInt, api.ErrLong},
	} {
		for _, ino := range []uint64{7, 9} {
			asked := s.asked()
			p := x.c.Read(ino, c.at, c.n)
			if e := x.c.Why(); e != c.e || len(p) != 0 && e != api.OK || len(p) != c.n && e == api.OK {
				t.Errorf("Read(%d, %d, %d): %d bytes, error %d, want %d", ino, c.at, c.n, len(p), e, c.e)
			}
			if c.e != api.OK && s.asked() != asked {
				t.Errorf("Read(%d, %d, %d) has used the space", ino, c.at, c.n)
			}
			x.do(call{kind: "Abort"})
		}
	}
	x.held()
}

// noBytes is all that no bytes are handed in as.
func noBytes() [][]byte { return [][]byte{nil, {}, []byte("abc")[:0]} }

// TestWriteNothing: of no bytes up to MaxFile nothing changes, no piece comes to be there, and there is no error (P14.3).
func TestWriteNothing(t *testing.T) {
	s := wide(t)
	x := holey(t, s)
	asked := s.asked()
	for _, at := range append(borders(6), api.MaxFile-1, api.MaxFile) {
		for _, p := range noBytes() {
			for _, ino := range []uint64{7, 9} {
				x.c.Write(ino, at, p)
				want(t, "Why", x.c.Why(), api.OK)
			}
		}
	}
	if s.asked() != asked || x.b.Root() != x.root {
		t.Errorf("something was changed")
	}
	x.held()
}

// TestWriteNothingAboveTheEnd: of no bytes above MaxFile the error is ErrLong, it stays, and the space is not used (P14.1, P14.3).
func TestWriteNothingAboveTheEnd(t *testing.T) {
	s := wide(t)
	x := holey(t, s)
	before := s.bytes()
	for _, at := range []uint64{api.MaxFile + 1, api.MaxFile + 2, api.MaxFile + size, 1 << 32, 1 << 40, 1 << 63, greatest - api.MaxFile, greatest - 1, greatest} {
		for _, p := range noBytes() {
			for _, ino := range []uint64{7, 9} {
				asked := s.asked()
				x.c.Write(ino, at, p)
				if s.asked() != asked {
					t.Errorf("no bytes at %d: the space was used", at)
				}
				want(t, "Why", x.c.Why(), api.ErrLong)
				x.a.why = api.ErrLong
				x.dumb()
				x.do(call{kind: "Abort"})
				x.backAt(before)
			}
		}
	}
}

// TestWriteNothingBehindAnError: of no bytes, wherever they would stand, another error stays the one that it is (P14.1, P14.3).
func TestWriteNothingBehindAnError(t *testing.T) {
	makers := map[api.Errno]func(x both){
		api.ErrArg: func(x both) { x.do(call{kind: "Read", ino: 7, n: -1}) },
		errRefused: func(x both) { x.hurt(errRefused) },
	}
	for e, maker := range makers {
		for _, at := range []uint64{0, api.MaxFile, api.MaxFile + 1, greatest} {
			for _, p := range noBytes() {
				x := holey(t, wide(t))
				before := x.s.bytes()
				maker(x)
				x.c.Write(7, at, p)
				want(t, "Why", x.c.Why(), e)
				x.dumb()
				x.do(call{kind: "Undo"})
				x.backAt(before)
			}
		}
	}
}

// TestWrite: from and up to places beside borders: into holes, over what an older tree has, and over what was written in this batch (P14.3).
func TestWrite(t *testing.T) {
	t.Parallel()
	for _, s := range spaces(t) {
		x := holey(t, s)
		for i, from := range borders(5) {
			for _, to := range borders(5) {
				if from >= to {
					continue
				}
				x.do(call{kind: "Write", ino: 7, at: from, p: text(i, int(to-from))})
				x.held()
				x.do(call{kind: "Write", ino: 7, at: from, p: "a"}, call{kind: "Write", ino: 7, at: to - 1, p: text(i+7, 2)})
				x.held()
				x.do(call{kind: "Undo"})
			}
		}
	}
}

// TestWriteAtTheEnd: up to MaxFile, and one above (P14.3).
func TestWriteAtTheEnd(t *testing.T) {
	s := wide(t)
	x := holey(t, s)
	for _, n := range []int{1, 2, 255, 256, 257, size, 3 * size, 5000, api.MaxFile} {
		at := uint64(api.MaxFile - n)
		x.do(call{kind: "Write", ino: 5, at: at, p: text(1, n)}, call{kind: "Write", ino: 7, at: at, p: text(2, n)})
		x.do(call{kind: "Read", ino: 5, at: at, n: n}, call{kind: "Pieces", ino: 5})
		x.held()
		x.do(call{kind: "Abort"})
		changes := s.changes()
		x.do(call{kind: "Write", ino: 7, at: at, p: text(3, n+1)})
		want(t, "Why", x.c.Why(), api.ErrLong)
		if s.changes() != changes {
			t.Errorf("%d bytes: a part was written", n+1)
		}
		x.do(call{kind: "Abort"})
	}
	for _, at := range []uint64{api.MaxFile, api.MaxFile + 1, 1 << 63, greatest, greatest - 2} {
		x.do(call{kind: "Write", ino: 7, at: at, p: "abc"})
		want(t, "Why", x.c.Why(), api.ErrLong)
		x.do(call{kind: "Abort"})
	}
	x.held()
}

// TestZeros: what was written is there, also if it is zeros, and of a content of zeros (P14.3, P14.5).
func TestZeros(t *testing.T) {
	x := begun(t, wide(t))
	x.do(call{kind: "Write", ino: 7, at: 2 * size, p: "\x00"}, call{kind: "Write", ino: 9, p: string(make([]byte, 3*size))})
	told(t, "Pieces", x.c.Pieces(7), 2)
	told(t, "Stretches", x.c.Stretches(9), [2]int{0, 3})
	x.held()
	x = x.settled()
	x.do(call{kind: "Write", ino: 9, at: size, p: text(1, size)}, call{kind: "Write", ino: 9, at: size, p: string(make([]byte, size))})
	x.held()
}

// TestCut: at each place beside borders, at and above MaxFile; of what an older tree has, and of what this batch has written. Then it is written and read behind the cut: what was cut off is zeros (P14.4).
func TestCut(t *testing.T) {
	for _, s := range spaces(t) {
		x := holey(t, s)
		for _, at := range append(borders(5), api.MaxFile-300, api.MaxFile-256, api.MaxFile-255, api.MaxFile-10, api.MaxFile-1, api.MaxFile, api.MaxFile+1, 1<<32, 1<<63, greatest) {
			for _, ahead := range [][]call{nil, {{kind: "Write", ino: 7, at: 300, p: text(8, 2000)}}} {
				x.do(ahead...)
				x.do(call{kind: "Cut", ino: 7, at: at}, call{kind: "Cut", ino: 9, at: at})
				x.held()
				x.do(call{kind: "Cut", ino: 7, at: at}, call{kind: "Read", ino: 7, at: 0, n: 7 * size})
				x.held()
				behind := at/size*size + size - 1
				if behind < api.MaxFile {
					x.do(call{kind: "Write", ino: 7, at: behind, p: "b"}, call{kind: "Read", ino: 7, at: at, n: int(behind + 1 - at)})
				}
				x.held()
				x.do(call{kind: "Abort"})
			}
		}
		x.held()
	}
}

// TestCutOfNothing: where no piece stands from size on nothing changes (P14.4).
func TestCutOfNothing(t *testing.T) {
	s := wide(t)
	x := holey(t, s)
	x.do(call{kind: "Cut", ino: 7, at: 5 * size})
	x = x.settled()
	changes := s.changes()
	for _, at := range []uint64{5 * size, 5*size + 1, 6 * size, api.MaxFile - 1, api.MaxFile, api.MaxFile + 1, 1 << 63, greatest} {
		x.do(call{kind: "Cut", ino: 7, at: at})
	}
	x.do(call{kind: "Cut", ino: 9}, call{kind: "Cut", ino: 9, at: 100}, call{kind: "Drop", ino: 9}, call{kind: "Drop", ino: greatest})
	if s.changes() != changes || x.b.Root() != x.root {
		t.Errorf("something was changed")
	}
	x.held()
}

// TestDrop: all that a content has, and nothing of its neighbours (P14.4).
func TestDrop(t *testing.T) {
	for _, fresh := range []bool{false, true} {
		for _, s := range spaces(t) {
			x := begun(t, s)
			for _, ino := range inos() {
				x.do(call{kind: "Write", ino: ino, p: text(1, 800)}, call{kind: "Write", ino: ino, at: api.MaxFile - 1, p: "e"})
			}
			if !fresh {
				x = x.settled()
			}
			for _, ino := range inos() {
				x.do(call{kind: "Drop", ino: ino}, call{kind: "Count", ino: ino}, call{kind: "Read", ino: ino, n: 1000}, call{kind: "Drop", ino: ino})
				x.held()
			}
			told(t, "Numbers", x.c.Numbers())
			told(t, "Blocks", x.c.Blocks())
			told(t, "Fresh", x.c.Fresh())
			if len(x.c.Gone()) != x.a.first.count() {
				t.Errorf("Gone: %v", x.c.Gone())
			}
			x.settled().held()
		}
	}
}

// TestTell: Count, Pieces, Stretches and Numbers of contents of which any of some pieces are there, with all neighbouring numbers (P14.5).
func TestTell(t *testing.T) {
	x := begun(t, wide(t))
	places := []int{0, 1, 2, 3, 5, 255, 256, last - 1, last}
	for set := range 1 << len(places) {
		ino := uint64(set) - 256
		for i, number := range places {
			if set>>i&1 == 1 {
				x.do(call{kind: "Write", ino: ino, at: uint64(number * size), p: text(set, 1)})
			}
		}
		x.do(call{kind: "Count", ino: ino}, call{kind: "Pieces", ino: ino}, call{kind: "Stretches", ino: ino})
	}
	x.held()
	for set := range 1 << len(places) {
		if set%3 == 0 {
			x.do(call{kind: "Drop", ino: uint64(set) - 256})
		}
	}
	x.held()
}

// TestWholeFile: a content of all pieces that can be there, written at once, read, written over and cut (P14.2 to P14.6).
func TestWholeFile(t *testing.T) {
	t.Parallel()
	x := begun(t, wide(t))
	x.do(call{kind: "Write", ino: greatest, p: text(1, api.MaxFile)})
	told(t, "Stretches", x.c.Stretches(greatest), [2]int{0, last + 1})
	x.held()
	x = x.settled()
	x.do(call{kind: "Read", ino: greatest, n: api.MaxFile}, call{kind: "Write", ino: greatest, at: 1, p: text(9, api.MaxFile-1)})
	x.held()
	x.do(call{kind: "Cut", ino: greatest, at: api.MaxFile / 2})
	x.held()
	x.do(call{kind: "Drop", ino: greatest})
	x.held()
	x.settled().held()
}
