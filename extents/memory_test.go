package extents_test

import (
	"bytes"
	"maps"
	"slices"
	"testing"

	"granary/api"
	"granary/btree"
	"granary/extents"
)

// behind is what stands in the spare room of bytes that are handed in.
const behind = "what stands behind it"

// TestHandedIn: bytes that are handed in are not changed, their spare room neither, and not kept: they may be changed afterwards (rule 3).
func TestHandedIn(t *testing.T) {
	for _, s := range spaces(t) {
		x := holey(t, s)
		for _, at := range []int{0, 1, size - 1, size, 3 * size, 4*size + 7} {
			for _, n := range []int{1, 2, size - 1, size, size + 1, 3 * size} {
				p := text(at, n)
				handed := []byte(p + behind)
				x.c.Write(7, uint64(at), handed[:n])
				if string(handed) != p+behind {
					t.Fatalf("Write has changed what was handed in")
				}
				clear(handed)
				x.a.plainly(call{kind: "Write", ino: 7, at: uint64(at), p: p})
				x.held()
			}
		}
	}
}

// TestHandedInKept: also where the space keeps what is written to it, nothing of what was handed in to Write is kept.
func TestHandedInKept(t *testing.T) {
	s := &keeper{room: wide(t)}
	root, _ := btree.Empty(s)
	c := extents.Open(btree.Open(s, root), s)
	for _, n := range []int{1, size, 2*size + 5} {
		handed := []byte(text(n, n))
		c.Write(7, 0, handed)
		clear(handed)
		p := c.Read(7, 0, n)
		if string(p) != text(n, n) {
			t.Errorf("%d bytes: what was handed in is kept", n)
		}
		clear(p)
		if string(c.Read(7, 0, n)) != text(n, n) {
			t.Errorf("%d bytes: what was told is kept", n)
		}
	}
}

// keeper is a space that keeps the lists that are written to it, and hands them out.
type keeper struct{ *room }

// Write is api.Space's.
func (k *keeper) Write(b int, p []byte) api.Errno {
	k.blocks[b] = p
	return api.OK
}

// Read is api.Space's.
func (k *keeper) Read(b int) ([]byte, api.Errno) { return k.blocks[b], api.OK }

// spoil writes over all of a list, its spare room too.
func spoil[T any](l []T, by T) {
	l = l[:cap(l)]
	for i := range l {
		l[i] = by
	}
}

// lists is all that the contents tell in lists, as text.
func lists(c *extents.Contents) string {
	return brief(c.Pieces(7)) + brief(c.Stretches(7)) + brief(c.Numbers()) + brief(c.Blocks()) + brief(c.Gone()) + brief(c.Fresh()) + string(c.Read(7, 0, 5*size))
}

// TestAnswersAreNew: whoever writes over an answer, its spare room too, changes neither the contents nor another answer (rule 3).
func TestAnswersAreNew(t *testing.T) {
	for _, s := range spaces(t) {
		x := holey(t, s)
		for _, ahead := range [][]call{nil, {{kind: "Write", ino: 7, at: 600, p: text(1, 900)}, {kind: "Drop", ino: 6}, {kind: "Cut", ino: 8, at: 500}}} {
			x.do(ahead...)
			before, blocks := lists(x.c), s.bytes()
			spoil(x.c.Pieces(7), -1)
			spoil(x.c.Stretches(7), [2]int{-1, -1})
			spoil(x.c.Numbers(), 77)
			spoil(x.c.Blocks(), -1)
			spoil(x.c.Gone(), -1)
			spoil(x.c.Fresh(), -1)
			for _, n := range []int{0, 1, size, 5 * size} {
				spoil(x.c.Read(7, 0, n), 'z')
				spoil(x.c.Read(7, size, n), 'z')
			}
			if lists(x.c) != before || !maps.Equal(s.bytes(), blocks) {
				t.Errorf("what was written over answers has changed something")
			}
			x.held()
		}
	}
}

// TestToldIsOld: what was told stays, whatever is done behind it (rule 3).
func TestToldIsOld(t *testing.T) {
	d := dice(4)
	for _, s := range spaces(t) {
		x := holey(t, s)
		for range 40 {
			c := x.c
			p, pieces, stretches, numbers := c.Read(7, 0, 6*size), c.Pieces(7), c.Stretches(7), c.Numbers()
			blocks, gone, fresh := c.Blocks(), c.Gone(), c.Fresh()
			p2, pieces2, stretches2, numbers2 := bytes.Clone(p), slices.Clone(pieces), slices.Clone(stretches), slices.Clone(numbers)
			blocks2, gone2, fresh2 := slices.Clone(blocks), slices.Clone(gone), slices.Clone(fresh)
			for range 6 {
				x.do(drawnCall(&d, []uint64{6, 7, 8}))
			}
			if x.a.why != api.OK {
				x.do(call{kind: "Abort"})
			}
			told(t, "an old Read", p, p2...)
			told(t, "an old Pieces", pieces, pieces2...)
			told(t, "an old Stretches", stretches, stretches2...)
			told(t, "an old Numbers", numbers, numbers2...)
			told(t, "an old Blocks", blocks, blocks2...)
			told(t, "an old Gone", gone, gone2...)
			told(t, "an old Fresh", fresh, fresh2...)
		}
	}
}

// TestSameCalls: what the contents answer, and what they do to their space, hangs on the calls alone (rule 4).
func TestSameCalls(t *testing.T) {
	var wanted map[int]string
	for range 4 {
		d := dice(15)
		x := begun(t, strange(t))
		for range 300 {
			x.do(drawnCall(&d, []uint64{6, 7, 8}))
			if x.a.why != api.OK || d.below(20) == 0 {
				x.do(call{kind: "Abort"})
			}
		}
		if wanted == nil {
			wanted = x.s.bytes()
		}
		if !maps.Equal(x.s.bytes(), wanted) {
			t.Fatalf("the same calls, and other blocks")
		}
	}
}

// TestStrangeTrees: a tree whose keys nobody has put so is not handed in; all the same no call panics on it, and each ends (rule 1).
func TestStrangeTrees(t *testing.T) {
	d := dice(2)
	for range 150 {
		s := wide(t)
		s.quiet = true
		b := btree.Open(s, planted(t, s))
		for range 40 {
			key := []byte{'x', 0, 0, 0, 0, 0, 0, 0, byte(7 + d.below(2)), byte(d.below(2) * 255), 0, 0, byte(d.below(9)), 0, 9}
			b.Put(key[:1+d.below(len(key))], []byte("\x00\x00\x00\x00\x00\x00\x00\x05\x00\x00")[d.below(2):d.below(9)+2])
		}
		want(t, "Why", b.Why(), api.OK)
		c := extents.Open(b, s)
		for range 40 {
			really(b, c, drawnCall(&d, []uint64{7, 8}))
			if c.Why() != api.OK {
				c.Abort()
			}
			lists(c)
		}
	}
}

// TestStrangeBlocks: a space that answers too many bytes, or too few, is not sound; all the same no call panics (rule 1).
func TestStrangeBlocks(t *testing.T) {
	for _, n := range []int{0, 1, size - 1, size + 1, 5000} {
		s := &liar{room: wide(t)}
		c := extents.Open(btree.Open(s.room, planted(t, s.room)), s)
		c.Write(7, 10, []byte(text(1, 1000)))
		s.n = n
		c.Read(7, 0, 2000)
		c.Write(7, 100, []byte(text(1, 1000)))
		c.Cut(7, 300)
		want(t, "Why", c.Why(), api.OK)
		if p := c.Read(7, 0, 2000); len(p) != 2000 {
			t.Errorf("Read: %d bytes", len(p))
		}
	}
}

// liar is a space whose blocks read as n bytes.
type liar struct {
	*room
	n int
}

// Read is api.Space's.
func (l *liar) Read(int) ([]byte, api.Errno) { return make([]byte, l.n), api.OK }
