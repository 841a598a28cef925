package btree_test

import (
	"maps"
	"strings"
	"testing"

	"granary/api"
	"granary/btree"
)

// differ: Diff of two roots is what their sheets say, both ways, and none of each with itself (P11.9).
func differ(t *testing.T, s *room, a, b int, was, now sheet) {
	t.Helper()
	for _, c := range []struct {
		a, b     int
		was, now sheet
	}{{a, b, was, now}, {b, a, now, was}, {a, a, was, was}, {b, b, now, now}} {
		l, e := btree.Diff(s, c.a, c.b)
		want(t, "Diff", e, api.OK)
		told(t, "Diff", changeTexts(l), c.was.diff(c.now)...)
	}
	if t.Failed() {
		t.FailNow()
	}
}

// TestDiff: of two versions that share most blocks, of trees that share none, and of empty ones (P11.9).
func TestDiff(t *testing.T) {
	for _, s := range spaces(t) {
		none := empty(t, s)
		differ(t, s, none, empty(t, s), sheet{}, sheet{})
		root, now := forest(t, s, 150)
		differ(t, s, none, root, sheet{}, now)
		for _, steps := range [][]step{
			{{kind: "Put", key: "k000", value: "other"}},
			{{kind: "Put", key: "k000", value: "other"}, {kind: "Put", key: "k000", value: now["k000"]}},
			{{kind: "Drop", key: "k298"}},
			{{kind: "Put", key: "k151", value: "new"}, {kind: "Drop", key: "k000"}, {kind: "Put", key: "k298"}},
			{{kind: "Put", key: "k151"}},
		} {
			x := begun(t, s, root, now)
			for _, step := range steps {
				x.do(step)
			}
			x.held()
			differ(t, s, root, x.b.Root(), now, x.l.now)
			differ(t, s, none, x.b.Root(), sheet{}, x.l.now)
			want(t, "Abort", x.b.Abort(), api.OK)
		}
		again, same := forest(t, s, 150)
		differ(t, s, root, again, now, same)
		other := maps.Clone(same)
		delete(other, "k100")
		other["zz"] = ""
		third := planted(t, s, other.texts()...)
		differ(t, s, root, third, now, other)
	}
}

// TestDiffFields: of each change just what the chapter names (P11.9).
func TestDiffFields(t *testing.T) {
	s := wide(t)
	a := planted(t, s, "a=1", "b=2", "c=")
	b := planted(t, s, "b=3", "c=", "d=")
	l, e := btree.Diff(s, a, b)
	want(t, "Diff", e, api.OK)
	told(t, "Diff", changeTexts(l), changeText("a", "1", "", true, false), changeText("b", "2", "3", true, true), changeText("d", "", "", false, true))
}

// TestDiffOfVersions: each two of a long row of versions (P11.9).
func TestDiffOfVersions(t *testing.T) {
	dice := dice(9)
	for _, s := range spaces(t) {
		root, now := empty(t, s), sheet{}
		roots, sheets := []int{root}, []sheet{now}
		for range 25 {
			x := begun(t, s, root, now)
			for range 1 + dice.below(40) {
				step := drawnStep(&dice, 75)
				if step.kind != "Put" || isKey(step.key) && len(step.value) <= api.MaxValue {
					x.do(step)
				}
			}
			root, now = x.b.Root(), x.l.now
			roots, sheets = append(roots, root), append(sheets, now)
		}
		for i := range roots {
			for j := range i {
				differ(t, s, roots[i], roots[j], sheets[i], sheets[j])
			}
		}
	}
}

// TestDiffReadsLittle: what two trees share is not gone over (it is no promise, but why they share it).
func TestDiffReadsLittle(t *testing.T) {
	s := wide(t)
	root, now := forest(t, s, 400)
	x := begun(t, s, root, now)
	x.do(step{kind: "Put", key: "k100", value: "other"})
	clear(s.calls)
	differ(t, s, root, x.b.Root(), now, x.l.now)
	if many := 4 * len(blocksOf(t, s, root, len(now))); s.calls["Read"] >= many {
		t.Errorf("%d blocks were read of %d", s.calls["Read"], many)
	}
}

// TestNilSpace: Blocks and Diff of a nil space (P11.9).
func TestNilSpace(t *testing.T) {
	for _, root := range []int{leastInt, -1, 0, 1, greatestInt} {
		if l, e := btree.Blocks(nil, root); len(l) != 0 || e != api.ErrNone {
			t.Errorf("Blocks: %v, error %d", l, e)
		}
		for _, other := range []int{root, 0, 7} {
			if l, e := btree.Diff(nil, root, other); len(l) != 0 || e != api.ErrNone {
				t.Errorf("Diff: %v, error %d", l, e)
			}
		}
	}
}

// TestWholeRefused: Blocks and Diff tell the error of Read, and nothing else (P11.8, P11.9).
func TestWholeRefused(t *testing.T) {
	s := wide(t)
	a, was := forest(t, s, 90)
	x := begun(t, s, a, was)
	x.do(step{kind: "Drop", key: "k090"})
	b := x.b.Root()
	for n := 1; n > 0; n++ {
		clear(s.refused)
		s.refuseNext("Read", n)
		l, e := btree.Blocks(s, a)
		if s.refused["Read"] == 0 {
			break
		}
		if len(l) != 0 || e != errRefused {
			t.Errorf("Blocks: %v, error %d", l, e)
		}
	}
	for n := 1; n > 0; n++ {
		clear(s.refused)
		s.refuseNext("Read", n)
		l, e := btree.Diff(s, a, b)
		if s.refused["Read"] == 0 {
			break
		}
		if len(l) != 0 || e != errRefused {
			t.Errorf("Diff: %v, error %d", l, e)
		}
	}
	s.refuseNext("Read", 0)
	differ(t, s, a, b, was, x.l.now)
}

// TestFewBlocks: no tree has more than 2n + 1 blocks, also of the longest keys that begin alike, and one whose values shrink (P11.8).
func TestFewBlocks(t *testing.T) {
	s := wide(t)
	x := begun(t, s, empty(t, s), sheet{})
	for i := range 300 {
		key := numbered(strings.Repeat("k", 30), i*37%300, api.MaxKey)
		x.do(step{kind: "Put", key: key, value: strings.Repeat("v", api.MaxValue)})
		blocksOf(t, s, x.b.Root(), len(x.l.now))
	}
	full := len(x.b.Fresh())
	for _, key := range x.l.now.keys() {
		x.do(step{kind: "Put", key: key})
		blocksOf(t, s, x.b.Root(), len(x.l.now))
	}
	x.held()
	if n := len(x.b.Fresh()); n > full/2 {
		t.Errorf("%d blocks, of %d when the values were long", n, full)
	}
	for _, key := range x.l.now.keys() {
		x.do(step{kind: "Drop", key: key})
		blocksOf(t, s, x.b.Root(), len(x.l.now))
	}
	x.held()
}
