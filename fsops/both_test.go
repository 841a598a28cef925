package fsops_test

import (
	"fmt"
	"maps"
	"reflect"
	"slices"
	"testing"

	"granary/api"
	"granary/fsops"
)

// both is an FS, and the account of the same tree.
type both struct {
	t      *testing.T
	s      *room
	f      *fsops.FS
	w      *plain
	others []int // what is taken in the space besides
	watch  bool  // the trees' blocks are written down behind each call
	seen   []int // which they were since Settle
}

// begun is both of a new tree in the space.
func begun(t *testing.T, s *room) *both {
	t.Helper()
	others := s.taken()
	root := formatted(t, s, 5)
	return &both{t: t, s: s, f: opened(t, s, root), w: newPlain(5), others: others}
}

// watched is both of a new tree whose blocks are written down.
func watched(t *testing.T, s *room) *both {
	t.Helper()
	x := begun(t, s)
	x.watch, x.seen = true, x.f.Blocks()
	return x
}

// same: two answers are alike. A list may be nil where it is empty.
func same(a, b answer) bool {
	if len(a.entries) == 0 && len(b.entries) == 0 {
		a.entries, b.entries = nil, nil
	}
	return reflect.DeepEqual(a, b)
}

// do makes calls on both, which are to answer the same, and takes at most 200 blocks for each (P15.20).
func (x *both) do(calls ...call) answer {
	x.t.Helper()
	var got answer
	for _, c := range calls {
		before, root := len(x.s.blocks), x.f.Root()
		x.s.peak = before
		wanted := x.w.plainly(c)
		got = really(x.t, x.f, c)
		if !same(got, wanted) {
			x.t.Fatalf("%s:\n%s, want\n%s", brief(c), brief(got), brief(wanted))
		}
		if x.s.peak-before > 200 {
			x.t.Fatalf("%s takes %d blocks", brief(c), x.s.peak-before)
		}
		if (got.e != api.OK || c.asks()) && (x.f.Root() != root || len(x.s.blocks) != before) {
			x.t.Fatalf("%s: error %d, and the tree or what is taken has changed", brief(c), got.e)
		}
		if x.watch && !c.asks() {
			x.seen = union(x.seen, x.f.Blocks())
		}
	}
	return got
}

// must makes a call on both, which is to be done.
func (x *both) must(c call) answer {
	x.t.Helper()
	out := x.do(c)
	if out.e != api.OK {
		x.t.Fatalf("%s: error %d", brief(c), out.e)
	}
	return out
}

// refused makes a call on both, which is to come to that error.
func (x *both) refused(c call, e api.Errno) {
	x.t.Helper()
	want(x.t, brief(c), x.do(c).e, e)
}

// held asks for all that there is in the tree, and for its blocks.
func (x *both) held() {
	x.t.Helper()
	entries := 0
	for _, number := range slices.Sorted(maps.Keys(x.w.things)) {
		entries += len(x.w.things[number].entries)
		x.heldOne(number)
	}
	stat := x.must(call{op: "stat"}).stat
	blocks := x.f.Blocks()
	if !slices.IsSorted(blocks) || len(slices.Compact(slices.Clone(blocks))) != len(blocks) {
		x.t.Fatalf("Blocks: %v", blocks)
	}
	if most := 20 + 16*int(stat.Inodes) + 6*entries + 4*int(stat.Blocks); len(blocks) > most {
		x.t.Fatalf("%d blocks, want at most %d", len(blocks), most)
	}
	if left := minus(blocks, x.s.taken()); len(left) > 0 {
		x.t.Fatalf("Blocks tells %v, which are not taken", left)
	}
}

// heldOne asks for all that there is of the inode of that number.
func (x *both) heldOne(number uint64) {
	x.t.Helper()
	h, y := x.w.handle(number), x.w.things[number]
	x.do(call{op: "getattr", h: h}, call{op: "readlink", h: h}, call{op: "read", h: h, n: 9999}, call{op: "readdir", h: h, n: greatestInt})
	if y.x.Kind == api.KindDir {
		for _, entry := range y.entries {
			x.do(call{op: "lookup", h: h, a: entry.Name})
		}
		x.do(call{op: "lookup", h: h, a: "."}, call{op: "lookup", h: h, a: ".."})
	}
	for i := range y.there {
		x.do(call{op: "read", h: h, at: max(i*size, 10) - 10, n: size + 20})
	}
	if y.x.Size > 0 {
		x.do(call{op: "read", h: h, at: y.x.Size - 1, n: 2})
	}
}

// settle is Settle, of which all is given back: then just Blocks are taken, and others' (P15.3, P15.18).
func (x *both) settle() {
	x.t.Helper()
	gone, blocks := x.f.Settle(), x.f.Blocks()
	if x.watch {
		told(x.t, "Settle", gone, minus(x.seen, blocks)...)
		x.seen = blocks
	}
	told(x.t, "Settle, rising", gone, union(gone)...)
	x.s.giveBack(gone)
	told(x.t, "what is taken", x.s.taken(), union(x.others, blocks)...)
	told(x.t, "Settle again", x.f.Settle())
}

// fork is both of the same tree, which go on by themselves.
func (x *both) fork() *both {
	x.t.Helper()
	return &both{t: x.t, s: x.s, f: opened(x.t, x.s, x.f.Root()), w: x.w.copied(), others: x.others}
}

// each makes each call by itself on the tree as it is: in a space in which no block is left, and in one that has enough.
func (x *both) each(calls []call) {
	x.t.Helper()
	x.s.freeze()
	before := x.s.taken()
	for _, c := range calls {
		y := x.fork()
		x.s.most = len(before)
		y.full(c)
		x.s.most = greatestInt
		y.watch, y.seen = true, before
		if y.do(c).e == api.OK && !c.asks() {
			y.held()
			told(x.t, "Settle", y.f.Settle(), minus(before, y.f.Blocks())...)
		}
		x.s.giveBack(minus(x.s.taken(), before))
	}
	clear(x.s.frozen)
}

// full makes a call in a space in which no block is left: it has another error, changes nothing, or has ErrNoSpace. To write takes a block, also where the same stands there.
func (x *both) full(c call) {
	x.t.Helper()
	next := x.w.copied()
	wanted := next.plainly(c)
	if wanted.e == api.OK && (!reflect.DeepEqual(next, x.w) || c.op == "write" && c.p != "") {
		wanted = answer{e: api.ErrNoSpace}
	}
	root, many := x.f.Root(), len(x.s.blocks)
	got := really(x.t, x.f, c)
	if !same(got, wanted) {
		x.t.Fatalf("without a block left, %s:\n%s, want\n%s", brief(c), brief(got), brief(wanted))
	}
	if x.f.Root() != root || len(x.s.blocks) != many || len(x.f.Settle()) > 0 {
		x.t.Fatalf("without a block left, %s: something has changed", brief(c))
	}
}

// yard is both of a tree with something of all kinds:
//
//	f: a file of three pieces, of which the second was never written; g, h: one file
//	l: a link to "target"; long: one of 255 bytes
//	d: a directory with e, in which is e, in which is nothing; and with f, another file
//	v: an empty directory; w: one with a link
//
// and one with inodes that are no more, whose number was given anew, or was not.
func yard(t *testing.T, s *room) *both {
	t.Helper()
	x := begun(t, s)
	top := x.w.top()
	was := x.must(call{op: "create", h: top, a: "was", now: 6}).o.Handle
	d := x.must(call{op: "mkdir", h: top, a: "d", now: 7}).o.Handle
	x.must(call{op: "remove", h: top, a: "was", now: 8})
	f := x.must(call{op: "create", h: top, a: "f", now: 9}).o.Handle
	if was.Number != f.Number {
		t.Fatalf("the file has the number %d, want %d", f.Number, was.Number)
	}
	x.must(call{op: "write", h: f, p: text(1, 300), now: 10})
	x.must(call{op: "write", h: f, at: 2*size + 5, p: text(2, 200), now: 11})
	g := x.must(call{op: "create", h: top, a: "g", how: api.Create{Uid: 3, Gid: 4}, now: 12}).o.Handle
	x.must(call{op: "write", h: g, at: 10, p: "of g", now: 13})
	x.must(call{op: "link", h: g, h2: top, a: "h", now: 14})
	x.must(call{op: "symlink", h: top, a: "l", b: "target", now: 15})
	x.must(call{op: "symlink", h: top, a: "long", b: text(7, 255), now: 16})
	e := x.must(call{op: "mkdir", h: d, a: "e", now: 17}).o.Handle
	x.must(call{op: "mkdir", h: e, a: "e", now: 18})
	x.must(call{op: "create", h: d, a: "f", how: api.Create{How: api.CreateExclusive, Verf: 77}, now: 19})
	x.must(call{op: "mkdir", h: top, a: "v", now: 20})
	w := x.must(call{op: "mkdir", h: top, a: "w", now: 21}).o.Handle
	x.must(call{op: "symlink", h: w, a: "l", b: "x", now: 22})
	x.must(call{op: "create", h: top, a: "gone", now: 23})
	x.must(call{op: "remove", h: top, a: "gone", now: 24})
	x.settle()
	x.held()
	return x
}

// at is the handle of what the names lead to from the root directory on.
func (x *both) at(names ...string) api.Handle {
	x.t.Helper()
	here := x.w.things[1]
	for _, name := range names {
		next, is := x.w.find(here, name)
		if !is {
			x.t.Fatalf("nothing is called %q", name)
		}
		here = next
	}
	return x.w.handle(here.x.Number)
}

// stale is handles of which none names anything in a yard.
func (x *both) stale() []api.Handle {
	f := x.at("f")
	return []api.Handle{
		{}, {Fs: 1, Number: f.Number, Generation: f.Generation}, {Number: 999, Generation: 1}, {Number: f.Number, Generation: f.Generation + 1},
		{Number: f.Number, Generation: 2}, {Number: greatest, Generation: 1<<32 - 1}, {Number: 1, Generation: 2}, {Generation: 1}, {Number: 1},
		{Number: f.Number + 1<<32, Generation: f.Generation}, {Fs: 1<<32 - 1, Number: 1, Generation: 1}, {Number: 15, Generation: 16},
	}
}

// good is handles of what there is in a yard.
func (x *both) good() []api.Handle {
	return []api.Handle{
		x.w.top(), x.at("d"), x.at("d", "e"), x.at("d", "e", "e"), x.at("v"), x.at("w"),
		x.at("f"), x.at("g"), x.at("d", "f"), x.at("l"), x.at("long"),
	}
}

// badNames is names that Check refuses.
func badNames() []string {
	return []string{"", ".", "..", "a/b", "/", "a\x00", long(29), long(300), "/" + long(30)}
}

// names is names of what there is in a yard, and of what there is not.
func names() []string {
	return []string{"f", "g", "h", "l", "d", "e", "v", "w", "was", "new", "F", "...", long(28), "\xff\xfe"}
}

// String is the call as text.
func (c call) String() string {
	guard := "none"
	if c.guard != nil {
		guard = fmt.Sprint(*c.guard)
	}
	return fmt.Sprintf("%s %v %v %.40q %.40q at %d n %d %d bytes %+v guard %s %+v now %d", c.op, c.h, c.h2, c.a, c.b, c.at, c.n, len(c.p), c.set, guard, c.how, c.now)
}
