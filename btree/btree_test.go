package btree_test

import (
	"strings"
	"testing"

	"granary/api"
	"granary/btree"
)

// TestExamples: those of the chapter.
func TestExamples(t *testing.T) {
	for _, s := range spaces(t) {
		root := empty(t, s)
		b := opened(t, s, root)
		b.Put([]byte("b"), []byte("1"))
		b.Put([]byte("a"), []byte("2"))
		told(t, "Range", texts(b.Range(nil, nil, 9)), "a=2", "b=1")
		if p, is := b.Next([]byte("a")); !is || text(p) != "b=1" {
			t.Errorf("Next: %s %t", text(p), is)
		}
		if p, is := b.Last(nil); !is || text(p) != "b=1" {
			t.Errorf("Last: %s %t", text(p), is)
		}
		if n := b.Len(); n != 2 {
			t.Errorf("Len: %d", n)
		}
		told(t, "Gone", b.Gone(), root)
		told(t, "Fresh", b.Fresh(), b.Root())

		old := b.Root()
		c := opened(t, s, old)
		if !c.Drop([]byte("a")) {
			t.Errorf("Drop: false")
		}
		has(t, "the older root", s, old, sheet{"a": "2", "b": "1"})
		l, e := btree.Diff(s, old, c.Root())
		want(t, "Diff", e, api.OK)
		told(t, "Diff", changeTexts(l), changeText("a", "2", "", true, false))

		d := opened(t, s, old)
		d.Put(nil, []byte("1"))
		want(t, "Why", d.Why(), api.ErrArg)
		if d.Root() != old {
			t.Errorf("Root: %d, want %d", d.Root(), old)
		}
	}
}

// TestEmpty: a tree without keys takes one block (P11.1).
func TestEmpty(t *testing.T) {
	for _, s := range spaces(t) {
		root := empty(t, s)
		told(t, "what is taken", s.taken(), root)
		has(t, "an empty tree", s, root, sheet{})
		told(t, "Blocks", blocksOf(t, s, root, 0), root)
		other := empty(t, s)
		if other == root {
			t.Errorf("two trees in the block %d", root)
		}
		told(t, "what is taken", s.taken(), union([]int{root}, []int{other})...)
		begun(t, s, root, sheet{}).held()
	}
}

// TestEmptyRefused: Empty of a nil space, and of one that refuses: nothing is taken (P11.1).
func TestEmptyRefused(t *testing.T) {
	if root, e := btree.Empty(nil); root != 0 || e != api.ErrNone {
		t.Errorf("Empty(nil): %d, error %d", root, e)
	}
	full := newRoom(t, 0)
	if root, e := btree.Empty(full); root != 0 || e != api.ErrSpace {
		t.Errorf("Empty of a full space: %d, error %d", root, e)
	}
	for _, call := range []string{"Take", "Write"} {
		for _, s := range spaces(t) {
			there := planted(t, s, "a=1")
			s.freeze()
			s.refuseNext(call, 1)
			s.stays("Empty of a space that refuses "+call, func() {
				if root, e := btree.Empty(s); root != 0 || e != errRefused {
					t.Errorf("Empty of a space that refuses %s: %d, error %d", call, root, e)
				}
			})
			has(t, "the other tree", s, there, sheet{"a": "1"})
			empty(t, s)
		}
	}
	s := wide(t)
	s.refuseNext("Write", -1)
	s.refuseNext("Give", -1)
	if root, e := btree.Empty(s); root != 0 || e != errRefused {
		t.Errorf("Empty of a space that takes nothing back: %d, error %d", root, e)
	}
}

// TestOpen: it reads and takes nothing; of a nil space it is nil (P11.2).
func TestOpen(t *testing.T) {
	for _, root := range []int{leastInt, -1, 0, 1, greatestInt} {
		if b := btree.Open(nil, root); b != nil {
			t.Errorf("Open(nil, %d): %v", root, b)
		}
	}
	s := wide(t)
	root, now := forest(t, s, 100)
	clear(s.calls)
	x := begun(t, s, root, now)
	for call, n := range s.calls {
		t.Errorf("Open calls %s %d times", call, n)
	}
	x.held()
}

// TestOwnTree: a batch reads its own tree as it is changed, and the old one stays; so does another batch on the same root (P11.2).
func TestOwnTree(t *testing.T) {
	for _, s := range spaces(t) {
		root, now := forest(t, s, 80)
		x := begun(t, s, root, now)
		y := begun(t, s, root, now)
		x.do(step{kind: "Put", key: "k000", value: "other"})
		x.do(step{kind: "Drop", key: "k010"})
		x.do(step{kind: "Put", key: "new", value: strings.Repeat("n", 90)})
		for _, key := range []string{"k000", "k010", "new", "k020"} {
			for _, kind := range []string{"Get", "Next", "Last", "Len"} {
				x.do(step{kind: kind, key: key})
				y.do(step{kind: kind, key: key})
			}
		}
		x.do(step{kind: "Range", most: greatestInt})
		y.do(step{kind: "Range", most: greatestInt})
		y.do(step{kind: "Put", key: "k000", value: "third"})
		y.do(step{kind: "Get", key: "k000"})
		x.do(step{kind: "Get", key: "k000"})
		x.do(step{kind: "Abort"})
		y.do(step{kind: "Range", most: greatestInt})
		has(t, "y's tree", s, y.b.Root(), y.l.now)
		x.do(step{kind: "Range", most: greatestInt})
		y.do(step{kind: "Abort"})
		x.nothingLeft()
	}
}

// TestNilBatch: every call of a nil Batch (P11.9).
func TestNilBatch(t *testing.T) {
	var b *btree.Batch
	for _, key := range []string{"", "a", strings.Repeat("a", 99)} {
		for _, kind := range []string{"Get", "Put", "Drop", "Range", "Next", "Last", "Len"} {
			if got := really(b, step{kind: kind, key: key, value: key, most: 5}); got != nothing(kind) {
				t.Errorf("%s of a nil Batch: %s", kind, got)
			}
		}
		want(t, "Why", b.Why(), api.OK)
		want(t, "Abort", b.Abort(), api.OK)
	}
	if b.Root() != 0 {
		t.Errorf("Root: %d", b.Root())
	}
	told(t, "Gone", b.Gone())
	told(t, "Fresh", b.Fresh())
}
