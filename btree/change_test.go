package btree_test

import (
	"slices"
	"strings"
	"testing"

	"granary/api"
	"granary/btree"
)

// TestPutAndDrop: keys and values of all lengths, one by one, in both orders, and back to none (P11.4).
func TestPutAndDrop(t *testing.T) {
	for _, s := range spaces(t) {
		for _, size := range []int{0, 1, 50, api.MaxValue - 1, api.MaxValue} {
			keys := edges()
			for range 2 {
				slices.Reverse(keys)
				x := begun(t, s, empty(t, s), sheet{})
				for i, k := range keys {
					x.do(step{kind: "Put", key: k, value: strings.Repeat("v", size)})
					x.do(step{kind: "Get", key: k})
					x.do(step{kind: "Put", key: keys[i/2], value: strings.Repeat("w", api.MaxValue-size)})
					x.do(step{kind: "Get", key: keys[i/2]})
					x.held()
				}
				for _, k := range keys {
					x.do(step{kind: "Drop", key: k})
					x.do(step{kind: "Drop", key: k})
					x.do(step{kind: "Get", key: k})
					x.held()
				}
				told(t, "Blocks", blocksOf(t, s, x.b.Root(), 0), x.b.Root())
				want(t, "Abort", x.b.Abort(), api.OK)
			}
		}
	}
}

// TestNoValue: a key that has no bytes is there all the same (P11.3, P11.4).
func TestNoValue(t *testing.T) {
	s := wide(t)
	b := opened(t, s, empty(t, s))
	b.Put([]byte("a"), nil)
	if v, is := b.Get([]byte("a")); len(v) != 0 || !is || b.Len() != 1 {
		t.Errorf("Get: %q %t, Len %d", v, is, b.Len())
	}
	root := b.Root()
	b.Put([]byte("a"), []byte{})
	if b.Root() != root || !b.Drop([]byte("a")) || b.Drop([]byte("a")) {
		t.Errorf("nothing put for nothing is a change, or is not there")
	}
}

// TestPutRefused: the error of a key or a value that may not be, and which is told first (P11.4).
func TestPutRefused(t *testing.T) {
	long := strings.Repeat("x", api.MaxKey+1)
	bulky := strings.Repeat("x", api.MaxValue+1)
	cases := []struct {
		key, value string
		e          api.Errno
	}{
		{"", "", api.ErrArg}, {"", "v", api.ErrArg}, {"", bulky, api.ErrArg},
		{long, "", api.ErrLong}, {long, "v", api.ErrLong}, {long, bulky, api.ErrLong}, {strings.Repeat("x", 70000), "v", api.ErrLong},
		{"k", bulky, api.ErrLong}, {"k", strings.Repeat("x", 70000), api.ErrLong}, {long[1:], bulky, api.ErrLong},
		{long[1:], bulky[1:], api.OK}, {"k", bulky[1:], api.OK}, {long[1:], "", api.OK}, {"k", "", api.OK},
	}
	for _, s := range spaces(t) {
		root, now := forest(t, s, 30)
		for _, c := range cases {
			for _, changed := range []bool{false, true} {
				x := begun(t, s, root, now)
				if changed {
					x.do(step{kind: "Put", key: "other", value: "v"})
					x.do(step{kind: "Drop", key: "k000"})
				}
				x.do(step{kind: "Put", key: c.key, value: c.value})
				want(t, "Put", x.b.Why(), c.e)
				x.held()
				want(t, "Abort", x.b.Abort(), api.OK)
			}
		}
	}
}

// TestDropNone: what is no key is dropped without an error (P11.4).
func TestDropNone(t *testing.T) {
	grown(t, func(x both) {
		root, fresh := x.b.Root(), x.b.Fresh()
		for _, key := range asked() {
			if _, is := x.l.now[key]; !is {
				x.do(step{kind: "Drop", key: key})
			}
		}
		if x.b.Drop(nil) || x.b.Root() != root {
			t.Errorf("Drop of what is not there: Root %d, want %d", x.b.Root(), root)
		}
		told(t, "Fresh", x.b.Fresh(), fresh...)
		x.held()
	})
}

// TestNoChange: Put of what a key has already and Drop of what is not there change nothing: nothing is taken, given or written (P11.6).
func TestNoChange(t *testing.T) {
	for _, s := range spaces(t) {
		root, now := forest(t, s, 120)
		x := begun(t, s, root, now)
		clear(s.calls)
		for _, key := range now.keys() {
			x.do(step{kind: "Put", key: key, value: now[key]})
			x.do(step{kind: "Drop", key: key + "x"})
			x.do(step{kind: "Drop", key: key[:3]})
		}
		if s.calls["Take"]+s.calls["Give"]+s.calls["Write"] > 0 {
			t.Errorf("the space was called: %v", s.calls)
		}
		x.nothingLeft()
		x.do(step{kind: "Put", key: "k000", value: "other"})
		changed := x.b.Root()
		clear(s.calls)
		x.do(step{kind: "Put", key: "k000", value: "other"})
		x.do(step{kind: "Drop", key: "j"})
		if s.calls["Take"]+s.calls["Give"]+s.calls["Write"] > 0 || x.b.Root() != changed {
			t.Errorf("the space was called: %v", s.calls)
		}
		x.held()
	}
}

// TestOneWrite: what lies in a block of the batch's own is written there again, and nothing else is (it is no promise, but keeps batches cheap).
func TestOneWrite(t *testing.T) {
	s := wide(t)
	root, now := forest(t, s, 120)
	x := begun(t, s, root, now)
	x.do(step{kind: "Put", key: "k100", value: now["k102"]})
	clear(s.calls)
	x.do(step{kind: "Put", key: "k100", value: now["k100"]})
	if s.calls["Write"] != 1 || s.calls["Take"]+s.calls["Give"] > 0 {
		t.Errorf("the space was called: %v", s.calls)
	}
	x.held()
}

// TestFirstErrorStays: behind an error nothing is done, each call answers nothing, and another error is not told (P11.6, and the paragraph ahead of P11.3).
func TestFirstErrorStays(t *testing.T) {
	for _, s := range spaces(t) {
		root, now := forest(t, s, 60)
		for _, first := range []step{{kind: "Put"}, {kind: "Put", key: strings.Repeat("x", 99)}} {
			for _, changed := range []bool{false, true} {
				x := begun(t, s, root, now)
				if changed {
					x.do(step{kind: "Put", key: "k0", value: "v"})
					x.do(step{kind: "Drop", key: "k020"})
				}
				x.do(first)
				clear(s.calls)
				for range 2 {
					for _, kind := range []string{"Get", "Put", "Drop", "Range", "Next", "Last", "Len"} {
						x.do(step{kind: kind, key: "k000", value: "z", most: 9})
					}
					x.do(step{kind: "Put"})
					x.do(step{kind: "Put", key: "k", value: strings.Repeat("x", 99)})
				}
				for call, n := range s.calls {
					t.Errorf("behind an error %s is called %d times", call, n)
				}
				x.held()
				x.do(step{kind: "Abort"})
				x.do(step{kind: "Get", key: "k000"})
				x.do(step{kind: "Put", key: "k000", value: "again"})
				x.held()
				want(t, "Abort", x.b.Abort(), api.OK)
			}
		}
	}
}

// TestAbort: behind changes, behind none, twice; the batch goes on as Open made it (P11.7).
func TestAbort(t *testing.T) {
	dice := dice(7)
	for _, s := range spaces(t) {
		root, now := forest(t, s, 60)
		x := begun(t, s, root, now)
		x.do(step{kind: "Abort"})
		x.nothingLeft()
		for range 20 {
			for range dice.below(60) {
				x.do(drawnStep(&dice, 60))
			}
			x.do(step{kind: "Abort"})
			x.nothingLeft()
			x.do(step{kind: "Abort"})
			x.nothingLeft()
			x.do(step{kind: "Range", most: greatestInt})
		}
		x.do(step{kind: "Put", key: "last", value: "v"})
		x.held()
	}
}

// TestAbortRefused: Abort tells the first error of Give, gives back what it can, and the rest the next time (P11.7).
func TestAbortRefused(t *testing.T) {
	for _, broken := range []bool{false, true} {
		for n := 1; ; n++ {
			s := wide(t)
			root, now := forest(t, s, 60)
			x := begun(t, s, root, now)
			for _, key := range now.keys() {
				x.do(step{kind: "Put", key: key, value: "v"})
			}
			many := len(x.b.Fresh())
			if n > many {
				break
			}
			if broken {
				s.refuseNext("Give", -1)
				x.do(step{kind: "Put"})
			}
			s.refuseNext("Give", n)
			want(t, "Abort", x.b.Abort(), errRefused)
			if left := minus(s.taken(), x.taken); len(left) != 1 {
				t.Fatalf("%v are still taken", left)
			}
			want(t, "Why", x.b.Why(), api.OK)
			told(t, "Fresh", x.b.Fresh())
			told(t, "Gone", x.b.Gone())
			has(t, "the first tree", s, x.b.Root(), now)
			want(t, "Abort", x.b.Abort(), api.OK)
			x.l.plainly(step{kind: "Abort"})
			x.nothingLeft()
		}
	}
}

// TestAbortRefusedThroughout: of a space that takes nothing back, again and again (P11.7).
func TestAbortRefusedThroughout(t *testing.T) {
	s := wide(t)
	root, now := forest(t, s, 60)
	x := begun(t, s, root, now)
	x.do(step{kind: "Put", key: "k000", value: "v"})
	s.refuseNext("Give", -1)
	s.varied = true
	fresh := x.b.Fresh()
	if len(fresh) < 2 {
		t.Fatalf("Fresh: %v", fresh)
	}
	for i := range 3 {
		want(t, "Abort", x.b.Abort(), errRefused+api.Errno(i*len(fresh)))
		told(t, "what is still taken", minus(s.taken(), x.taken), fresh...)
	}
	s.refuseNext("Give", 0)
	b := btree.Open(s, root)
	want(t, "Abort of another", b.Abort(), api.OK)
	want(t, "Abort", x.b.Abort(), api.OK)
	x.l.plainly(step{kind: "Abort"})
	x.nothingLeft()
}

// TestGiveRefusedInDrop: the error of a block that a join leaves over, and can't be given back, is the batch's (P11.4).
func TestGiveRefusedInDrop(t *testing.T) {
	s := wide(t)
	root, now := forest(t, s, 60)
	x := begun(t, s, root, now)
	s.refuseNext("Give", 1)
	for _, key := range now.keys() {
		x.b.Drop([]byte(key))
	}
	if s.refused["Give"] != 1 {
		t.Fatalf("nothing was given back")
	}
	want(t, "Why", x.b.Why(), errRefused)
	x.nothingLeft()
	want(t, "Abort", x.b.Abort(), api.OK)
	x.nothingLeft()
}
