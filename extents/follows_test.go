package extents_test

import (
	"slices"
	"testing"

	"granary/api"
	"granary/btree"
	"granary/extents"
)

// version is a root, and what the contents of its tree are.
type version struct {
	root int
	has  files
}

// blocks is all blocks of the version's tree and of its contents.
func (v version) blocks(t *testing.T, s *room) []int {
	t.Helper()
	return union(blocksOf(t, s, v.root), extents.Open(btree.Open(s, v.root), s).Blocks())
}

// needed is the blocks of all versions.
func needed(t *testing.T, s *room, versions []version) []int {
	t.Helper()
	var out []int
	for _, v := range versions {
		out = union(out, v.blocks(t, s))
	}
	return out
}

// TestOlderRoots: drawn contents on any of several versions of one space, which end anyhow; all versions that were not given back have what they had (P14.8), and just their blocks are taken (P14.9).
func TestOlderRoots(t *testing.T) {
	t.Parallel()
	d := dice(8)
	for _, s := range spaces(t) {
		first := begun(t, s)
		versions := []version{{first.root, files{}}}
		for range 80 {
			from := one(&d, versions)
			x := opened(t, s, from.root, from.has)
			for range 1 + d.below(20) {
				x.do(drawnCall(&d, []uint64{0, 1, 7, greatest}))
			}
			x.held()
			if x.a.why != api.OK || d.below(5) == 0 {
				x.do(call{kind: one(&d, []string{"Abort", "Undo"})})
			} else if x.b.Root() != from.root {
				versions = append(versions, version{x.b.Root(), x.a.now})
			}
			if len(versions) > 5 {
				i := d.below(len(versions))
				gone := versions[i]
				versions = slices.Delete(versions, i, i+1)
				s.giveBack(minus(gone.blocks(t, s), needed(t, s, versions)))
			}
			for _, v := range versions {
				opened(t, s, v.root, v.has).held()
			}
			told(t, "what is taken", s.taken(), needed(t, s, versions)...)
		}
	}
}

// TestBatches: contents on several batches of one root do not see each other, and the root has what it had (P14.8).
func TestBatches(t *testing.T) {
	d := dice(13)
	s := wide(t)
	x := holey(t, s)
	y := opened(t, s, x.root, x.a.first)
	before := opened(t, s, x.root, x.a.first)
	for range 200 {
		for _, one := range []both{x, y} {
			c := drawnCall(&d, []uint64{6, 7, 8, 9})
			if c.fault() == api.OK {
				one.do(c)
			}
		}
	}
	told(t, "what is taken", s.taken(), union(before.taken, x.b.Fresh(), x.c.Fresh(), y.b.Fresh(), y.c.Fresh())...)
	for _, one := range []both{x, y, before} {
		one.askAll()
	}
	x.do(call{kind: "Abort"})
	x.askAll()
	y.held()
	y.do(call{kind: "Undo"})
	before.held()
}

// door is a space that counts how many blocks were taken and read through it.
type door struct {
	*room
	takes int
	reads int
}

// Read is api.Space's.
func (d *door) Read(b int) ([]byte, api.Errno) {
	d.reads++
	return d.room.Read(b)
}

// Take is api.Space's.
func (d *door) Take() (int, api.Errno) {
	d.takes++
	return d.room.Take()
}

// TestFewBlocks: a content of n pieces has n blocks, a Write takes no more than it touches pieces, and none where its pieces have blocks of these contents' own; a Cut at most one (P14.11).
func TestFewBlocks(t *testing.T) {
	d := dice(7)
	for range 3 {
		x := holey(t, wide(t))
		for range 40 {
			through := &door{room: x.s}
			x.c = extents.Open(x.b, through)
			fresh := map[[2]uint64]struct{}{}
			for range 20 {
				c := drawnCall(&d, []uint64{6, 7, 8})
				if c.kind != "Write" && c.kind != "Cut" || c.fault() != api.OK {
					continue
				}
				most := 0
				if c.kind == "Cut" {
					most = 1
					clear(fresh)
				}
				for i := range len(c.p) {
					at := [2]uint64{c.ino, (c.at + uint64(i)) / size}
					if _, own := fresh[at]; !own {
						most++
						fresh[at] = struct{}{}
					}
				}
				through.takes = 0
				x.do(c)
				if through.takes > most {
					t.Fatalf("%s takes %d blocks, want at most %d", brief(c), through.takes, most)
				}
				if n := len(x.c.Blocks()); n != x.a.now.count() {
					t.Fatalf("%d blocks of %d pieces", n, x.a.now.count())
				}
			}
			x = x.settled()
		}
	}
}

// TestFewReads: no block is read of which nothing is needed: of no bytes none, and where a whole piece is written, not what it had.
func TestFewReads(t *testing.T) {
	x := begun(t, wide(t))
	x.do(call{kind: "Write", ino: 7, p: text(1, 6*size)})
	x = x.settled()
	through := &door{room: x.s}
	x.c = extents.Open(x.b, through)
	for _, c := range []struct {
		c     call
		reads int
	}{
		{call{kind: "Read", ino: 7, at: 100}, 0}, {call{kind: "Read", ino: 7, n: size}, 1}, {call{kind: "Read", ino: 7, at: size - 1, n: size + 2}, 3},
		{call{kind: "Read", ino: 7, at: 6 * size, n: 5 * size}, 0}, {call{kind: "Write", ino: 7, at: size, p: text(2, 3*size)}, 0},
		{call{kind: "Write", ino: 7, at: size, p: text(3, 3*size)}, 0}, {call{kind: "Write", ino: 7, at: size - 1, p: text(4, size+2)}, 2},
		{call{kind: "Write", ino: 7, at: 8*size + 1, p: text(4, 2*size)}, 0}, {call{kind: "Cut", ino: 7, at: 3 * size}, 0}, {call{kind: "Cut", ino: 7, at: size + 1}, 1},
	} {
		through.reads = 0
		x.do(c.c)
		if through.reads != c.reads {
			t.Errorf("%s reads %d blocks, want %d", brief(c.c), through.reads, c.reads)
		}
	}
	x.held()
}

// TestSpacesApart: of the contents' blocks all go through the space that was handed in to Open, and none of the batch's (P14.1).
func TestSpacesApart(t *testing.T) {
	a, b := wide(t), strange(t)
	batch := btree.Open(a, planted(t, a))
	taken := a.taken()
	c := extents.Open(batch, b)
	c.Write(7, 100, []byte(text(1, 1000)))
	c.Cut(7, 800)
	told(t, "what is taken of the one", a.taken(), union(taken, batch.Fresh())...)
	told(t, "what is taken of the other", b.taken(), c.Fresh()...)
	told(t, "Blocks", b.taken(), c.Blocks()...)
	if p := c.Read(7, 100, 1000); string(p[:700]) != text(1, 700) || len(c.Blocks()) != 3 {
		t.Errorf("Read: %q, blocks %v", p, c.Blocks())
	}
	want(t, "Why", c.Why(), api.OK)
}

// TestOthersStay: no key that begins with another byte than x is put, changed or dropped, and each key begins with x (P14.1).
func TestOthersStay(t *testing.T) {
	d := dice(9)
	x := begun(t, wide(t))
	for range 300 {
		c := drawnCall(&d, inos())
		if c.fault() == api.OK {
			x.do(c)
		}
	}
	if n := x.b.Len(); n <= len(others()) {
		t.Errorf("%d keys", n)
	}
	x.held()
	for _, ino := range inos() {
		x.do(call{kind: "Drop", ino: ino})
	}
	if n := x.b.Len(); n != len(others()) {
		t.Errorf("there is no content, and %d keys", n-len(others()))
	}
	x.held()
}

// TestByteByByte: what is read is what was written and cut so, over a stretch that is looked at wholly behind each change (P14.10).
func TestByteByByte(t *testing.T) {
	d := dice(3)
	for _, s := range spaces(t) {
		const whole = 4*size + 10
		x := begun(t, s)
		plain := [whole]byte{}
		for i := range 400 {
			at, n := d.below(whole), d.below(900)
			n = min(n, whole-at)
			if d.below(3) == 0 {
				x.c.Cut(7, uint64(at))
				clear(plain[at:])
			} else {
				x.c.Write(7, uint64(at), []byte(text(i, n)))
				copy(plain[at:], text(i, n))
			}
			if p := x.c.Read(7, 0, whole); string(p) != string(plain[:]) {
				t.Fatalf("change %d at %d: other bytes", i, at)
			}
			if i%20 == 0 {
				s.giveBack(x.b.Gone())
				s.giveBack(x.c.Gone())
				x = opened(t, s, x.b.Root(), files{})
			}
		}
	}
}
