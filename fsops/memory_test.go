package fsops_test

import (
	"bytes"
	"maps"
	"slices"
	"testing"

	"granary/api"
)

// spoil writes over all of a list, its spare room too.
func spoil[T any](l []T, by T) {
	l = l[:cap(l)]
	for i := range l {
		l[i] = by
	}
}

// TestHandedIn: bytes that are handed in to Write are not changed, their spare room neither, and not kept; nor is the guard of SetAttr (rule 3).
func TestHandedIn(t *testing.T) {
	for _, s := range spaces(t) {
		x := yard(t, s)
		h := x.at("f")
		for _, at := range []int{0, 1, size - 1, size, 3 * size} {
			for _, n := range []int{1, size - 1, size, size + 1, api.MaxIO} {
				p := text(at, n)
				handed := []byte(p + "what stands behind it")
				if _, err := x.f.Write(h, uint64(at), handed[:n], 40); err != nil {
					t.Fatal(err)
				}
				if string(handed) != p+"what stands behind it" {
					t.Fatal("Write has changed what was handed in")
				}
				clear(handed)
				x.w.plainly(call{op: "write", h: h, at: uint64(at), p: p, now: 40})
				x.heldOne(h.Number)
			}
		}
		guard := uint64(40)
		if _, err := x.f.SetAttr(h, api.SetAttr{Has: api.SetUid, Uid: 1}, &guard, 41); err != nil || guard != 40 {
			t.Errorf("SetAttr: %v, and the guard is %d", err, guard)
		}
	}
}

// keeper is a space that keeps the lists that are written to it, and hands them out.
type keeper struct{ *room }

// Write is api.Space's.
func (k *keeper) Write(b int, p []byte) api.Errno {
	k.blocks[b] = p
	return api.OK
}

// Read is api.Space's.
func (k *keeper) Read(b int) ([]byte, api.Errno) { return k.blocks[b], api.OK }

// TestKeptBySpace: also where the space keeps what is written to it, and hands that out, nothing that was handed in or told leads there (rule 3).
func TestKeptBySpace(t *testing.T) {
	s := &keeper{wide(t)}
	f := opened(t, s, formatted(t, s, 5))
	o, _ := f.Create(f.Top(), "f", api.Create{}, 6)
	for _, n := range []int{1, size, api.MaxIO} {
		handed := []byte(text(n, n))
		f.Write(o.Handle, 0, handed, 7)
		clear(handed)
		p, _, _ := f.Read(o.Handle, 0, n)
		if string(p) != text(n, n) {
			t.Errorf("%d bytes: what was handed in is kept", n)
		}
		spoil(p, 'z')
		if p, _, _ := f.Read(o.Handle, 0, n); string(p) != text(n, n) {
			t.Errorf("%d bytes: what was told is kept", n)
		}
	}
}

// TestAnswersAreNew: whoever writes over an answer, its spare room too, changes neither the tree nor another answer (rule 3).
func TestAnswersAreNew(t *testing.T) {
	for _, s := range spaces(t) {
		x := yard(t, s)
		x.must(call{op: "write", h: x.at("f"), at: 50, p: text(3, 900), now: 40})
		was := x.state()
		for range 2 {
			for _, n := range []int{0, 1, size, api.MaxIO} {
				p, _, _ := x.f.Read(x.at("f"), 0, n)
				spoil(p, 'z')
			}
			for _, h := range []api.Handle{x.w.top(), x.at("d"), x.at("d", "e", "e")} {
				l, _, _ := x.f.ReadDir(h, 0, 99)
				spoil(l, api.Entry{Name: "spoilt"})
			}
			spoil(x.f.Blocks(), -1)
			x.unchanged("answers", was)
			x.held()
		}
		gone := x.f.Settle()
		kept := slices.Clone(gone)
		x.must(call{op: "write", h: x.at("f"), at: 50, p: text(4, 900), now: 41})
		spoil(gone, -1)
		next := x.f.Settle()
		told(t, "both of Settle", union(next, kept), union(slices.Clone(next), slices.Clone(kept))...)
		if slices.Contains(next, -1) {
			t.Error("what Settle told is kept")
		}
		x.s.giveBack(union(kept, next))
		told(t, "what is taken", x.s.taken(), x.f.Blocks()...)
	}
}

// TestToldIsOld: what was told stays, whatever is called behind it (rule 3).
func TestToldIsOld(t *testing.T) {
	for i, s := range spaces(t) {
		x := yard(t, s)
		d := &drawer{d: dice(80 + i)}
		for range 60 {
			p, _, _ := x.f.Read(x.at("d", "f"), 0, 2000)
			l, _, _ := x.f.ReadDir(x.w.top(), 0, 99)
			blocks := x.f.Blocks()
			p2, l2, blocks2 := bytes.Clone(p), slices.Clone(l), slices.Clone(blocks)
			for range 5 {
				if c := d.call(x.w); c.op != "remove" && c.op != "rename" && c.op != "rmdir" {
					x.do(c)
				}
			}
			x.settle()
			if !bytes.Equal(p, p2) || !slices.Equal(l, l2) || !slices.Equal(blocks, blocks2) {
				t.Fatal("what was told has changed")
			}
		}
	}
}

// TestSameEachTime: the same calls on another FS answer the same, and take blocks with the same bytes (rule 4).
func TestSameEachTime(t *testing.T) {
	var last map[int]string
	for range 3 {
		x := begun(t, wide(t))
		d := &drawer{d: 90}
		for range 300 {
			x.do(d.call(x.w))
			if d.d.below(5) == 0 {
				x.settle()
			}
		}
		now := x.state().taken
		if last != nil && !maps.Equal(now, last) {
			t.Error("the same calls leave other blocks")
		}
		last = now
	}
}
