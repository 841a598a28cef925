package btree_test

import (
	"slices"
	"strings"
	"testing"

	"granary/api"
	"granary/btree"
)

// edges is keys of all kinds: bytes 0 and 255, beginnings of each other, the shortest and the longest.
func edges() []string {
	return []string{
		"\x00", "\x00\x00", "\x00\xff", "\x01", "a", "a\x00", "a\x00\x00", "aa", "ab", "b", "b\xff", "m",
		strings.Repeat("m", api.MaxKey-1), strings.Repeat("m", api.MaxKey), strings.Repeat("m", api.MaxKey-1) + "n",
		strings.Repeat("\x00", api.MaxKey), strings.Repeat("\xff", api.MaxKey), "\xfe\xff", "\xff", "\xff\x00", "\xff\xff",
	}
}

// asked is what is asked for: the edges, what lies between and beside them, none, and what is longer than any key.
func asked() []string {
	out := []string{"", "\x00\x00\x00", "a\x00\x01", "ac", "c", "\xff\xff\xff", strings.Repeat("\xff", 99), strings.Repeat("\x00", 99)}
	for _, k := range edges() {
		out = append(out, k, k+"\x00", k+"\xff", k+strings.Repeat("z", 60), k[:len(k)-1])
	}
	slices.Sort(out)
	return slices.Compact(out)
}

// grown calls do with batches on trees of the edges: none of them, one, some, and all, with short and with long values; some have been changed already.
func grown(t *testing.T, do func(x both)) {
	t.Helper()
	for _, s := range spaces(t) {
		for _, size := range []int{0, 1, api.MaxValue} {
			for _, by := range []int{99, 7, 2, 1} {
				tree := sheet{}
				for i, k := range edges() {
					if i%by == by/2 {
						tree[k] = strings.Repeat("v", size)
					}
				}
				do(begun(t, s, planted(t, s, tree.texts()...), tree))
				x := begun(t, s, planted(t, s, "a\x00=1", "zz=2"), sheet{"a\x00": "1", "zz": "2"})
				for k, v := range tree {
					x.do(step{kind: "Put", key: k, value: v})
				}
				x.do(step{kind: "Drop", key: "zz"})
				do(x)
			}
		}
	}
}

// TestGet: each of the edges, and what is beside them (P11.3).
func TestGet(t *testing.T) {
	grown(t, func(x both) {
		for _, key := range asked() {
			x.do(step{kind: "Get", key: key})
		}
		if v, is := x.b.Get(nil); v != nil || is {
			t.Errorf("Get(nil): %q %t", v, is)
		}
		want(t, "Why", x.b.Why(), api.OK)
	})
}

// TestGetNone: what is no key is asked for without an error, and nothing is read (P11.3).
func TestGetNone(t *testing.T) {
	s := wide(t)
	root, _ := forest(t, s, 50)
	b := opened(t, s, root)
	clear(s.calls)
	for _, key := range []string{"", strings.Repeat("k", api.MaxKey+1), strings.Repeat("k", 5000)} {
		if v, is := b.Get([]byte(key)); v != nil || is {
			t.Errorf("Get of %d bytes: %q %t", len(key), v, is)
		}
	}
	if s.calls["Read"] != 0 {
		t.Errorf("%d blocks were read", s.calls["Read"])
	}
	want(t, "Why", b.Why(), api.OK)
}

// TestNextAndLast: from each place of the tree (P11.5).
func TestNextAndLast(t *testing.T) {
	grown(t, func(x both) {
		for _, key := range asked() {
			x.do(step{kind: "Next", key: key})
			x.do(step{kind: "Last", key: key})
		}
		a, some := x.b.Next(nil)
		b, is := x.b.Last(nil)
		all := x.l.now.texts()
		if some != (len(all) > 0) || is != some || some && (text(a) != all[0] || text(b) != all[len(all)-1]) {
			t.Errorf("Next(nil): %s %t, Last(nil): %s %t, of %q", text(a), some, text(b), is, all)
		}
		if !some && (a.Key != nil || a.Value != nil || b.Key != nil || b.Value != nil) {
			t.Errorf("a false beside %v, %v", a, b)
		}
	})
}

// TestRange: from and to at each place of the tree, from behind to and at to, too (P11.5).
func TestRange(t *testing.T) {
	grown(t, func(x both) {
		all := asked()
		for i, from := range all {
			for _, to := range []string{"", from, all[i/2], all[(i+len(all))/2], all[len(all)-1], from + "\x00"} {
				x.do(step{kind: "Range", key: from, value: to, most: greatestInt})
				x.do(step{kind: "Range", key: from, value: to, most: 3})
			}
		}
	})
}

// TestMost: so many pairs at most, whatever int that is (P11.5).
func TestMost(t *testing.T) {
	grown(t, func(x both) {
		n := len(x.l.now)
		for _, most := range []int{leastInt, leastInt + 1, -2, -1, 0, 1, 2, n - 1, n, n + 1, 1 << 40, greatestInt - 1, greatestInt} {
			x.do(step{kind: "Range", most: most})
			x.do(step{kind: "Range", key: "a\x00", value: "\xff", most: most})
		}
		told(t, "Range(nil, nil)", texts(x.b.Range(nil, nil, n)), x.l.now.texts()...)
		if l := x.b.Range(nil, nil, 0); len(l) != 0 {
			t.Errorf("Range with most 0: %v", l)
		}
	})
}

// TestLen: as many as there are keys (P11.5).
func TestLen(t *testing.T) {
	grown(t, func(x both) {
		x.do(step{kind: "Len"})
		for _, k := range x.l.now.keys() {
			x.do(step{kind: "Drop", key: k})
			x.do(step{kind: "Len"})
		}
	})
}

// TestThrift: what is asked of a great tree reads the blocks on the way, not all of them (P11.5, P11.13).
func TestThrift(t *testing.T) {
	s := wide(t)
	root, now := forest(t, s, 400)
	keys := now.keys()
	b := opened(t, s, root)
	for i := range len(keys) - 4 {
		clear(s.calls)
		b.Range([]byte(keys[i]), []byte(keys[i+3]), greatestInt)
		b.Range([]byte(keys[i]), nil, 3)
		b.Next([]byte(keys[i]))
		b.Last([]byte(keys[i]))
		if n := s.calls["Read"]; n > 60 {
			t.Fatalf("%d blocks were read", n)
		}
	}
}

// TestRootsThatAreNone: a root that is no tree's is an error, whatever is asked, and it ends.
func TestRootsThatAreNone(t *testing.T) {
	s := wide(t)
	there := planted(t, s, "a=1")
	zeros, _ := s.Take()
	s.Write(zeros, nil)
	any, _ := s.Take()
	for root, wanted := range map[int]api.Errno{zeros: api.ErrNode, any: api.ErrNode, there + 77: api.ErrArg, leastInt: api.ErrArg} {
		for _, kind := range []string{"Get", "Put", "Drop", "Range", "Next", "Last", "Len"} {
			b := opened(t, s, root)
			if got := really(b, step{kind: kind, key: "a", value: "b", most: 5}); got != nothing(kind) {
				t.Errorf("%s: %s", kind, got)
			}
			want(t, kind, b.Why(), wanted)
			want(t, "Abort", b.Abort(), api.OK)
		}
		if l, e := btree.Blocks(s, root); len(l) != 0 || e != wanted {
			t.Errorf("Blocks: %v, error %d, want %d", l, e, wanted)
		}
		for _, pair := range [][2]int{{root, there}, {there, root}, {root, root}} {
			if l, e := btree.Diff(s, pair[0], pair[1]); len(l) != 0 || e != wanted {
				t.Errorf("Diff: %v, error %d, want %d", l, e, wanted)
			}
		}
	}
}
