package fsops_test

import (
	"maps"
	"slices"
	"testing"

	"granary/api"
)

// drawer draws calls on a tree: handles of what was there at some time, names of a few, places and lengths near borders.
type drawer struct {
	d     dice
	known []api.Handle
	now   uint64
}

// handle is a drawn handle: mostly of something that is there.
func (d *drawer) handle(w *plain) api.Handle {
	if len(d.known) > 0 && d.d.below(12) == 0 {
		return one(&d.d, d.known)
	}
	numbers := slices.Sorted(maps.Keys(w.things))
	h := w.handle(one(&d.d, numbers))
	d.known = append(d.known, h)
	return h
}

// dir is a drawn handle, mostly of a directory.
func (d *drawer) dir(w *plain) api.Handle {
	for range 20 {
		if h := d.handle(w); w.things[h.Number].x.Kind == api.KindDir {
			return h
		}
	}
	return d.handle(w)
}

// file is a drawn handle, mostly of a file.
func (d *drawer) file(w *plain) api.Handle {
	for range 20 {
		if h := d.handle(w); w.things[h.Number].x.Kind == api.KindFile {
			return h
		}
	}
	return d.handle(w)
}

// name is a drawn name: mostly one that some directory has, or of a few.
func (d *drawer) name(w *plain, dir api.Handle) string {
	switch l := w.things[dir.Number].entries; {
	case d.d.below(40) == 0:
		return one(&d.d, badNames())
	case len(l) > 0 && d.d.below(2) == 0:
		return one(&d.d, l).Name
	}
	return one(&d.d, []string{"a", "b", "c", "d", "e", "f", "g", "h", "another", long(28)})
}

// place is a drawn place in a file.
func (d *drawer) place() uint64 {
	switch d.d.below(10) {
	case 0:
		return one(&d.d, borders())
	case 1, 2, 3:
		return uint64(d.d.below(8)*size + d.d.below(3) - 1)
	}
	return uint64(d.d.below(4 * size))
}

// sizeSet is what a drawn SetAttr sets.
func (d *drawer) sizeSet() api.SetAttr {
	if d.d.below(4) == 0 {
		return one(&d.d, sets())
	}
	return api.SetAttr{Has: api.SetSize, Size: d.place()}
}

// call is a drawn call.
func (d *drawer) call(w *plain) call {
	d.now++
	dir := d.dir(w)
	c := call{h: dir, a: d.name(w, dir), now: d.now, how: api.Create{How: d.d.below(3), Uid: 1, Verf: uint64(d.d.below(2))}}
	if d.d.below(6) == 0 {
		c.how.Set = one(&d.d, sets())
	}
	switch c.op = one(&d.d, []string{"write", "write", "write", "setattr", "create", "create", "mkdir", "symlink", "remove", "remove", "rmdir", "rename", "rename", "link", "read", "readdir", "lookup", "getattr", "readlink", "stat"}); c.op {
	case "write":
		c.h, c.at, c.p = d.file(w), d.place(), text(d.d.below(99), d.d.below(900))
		if d.d.below(8) == 0 {
			c.p = text(1, d.d.below(2*api.MaxIO))
		}
	case "setattr":
		c.h, c.set = d.file(w), d.sizeSet()
		if right := w.things[c.h.Number].x.Ctime; d.d.below(3) == 0 {
			right += uint64(d.d.below(2))
			c.guard = &right
		}
	case "symlink":
		c.b = text(1, d.d.below(258))
	case "rename":
		c.h2 = d.dir(w)
		c.b = d.name(w, c.h2)
	case "link":
		c.h, c.h2 = d.handle(w), dir
	case "read":
		c.h, c.at, c.n = d.file(w), d.place(), one(&d.d, counts())
	case "readdir":
		c.at, c.n = uint64(d.d.below(12)), d.d.below(9)
	case "getattr", "readlink":
		c.h = d.handle(w)
	}
	return c
}

// TestDrawn: drawn lists of calls: each answer, Settle behind some of them, and all that there is (P15.3 to P15.20).
func TestDrawn(t *testing.T) {
	t.Parallel()
	for seed := range 6 {
		s := spaces(t)[seed%2]
		x := watched(t, s)
		d := &drawer{d: dice(seed)}
		for i := range 1200 {
			x.do(d.call(x.w))
			if d.d.below(9) == 0 {
				x.settle()
			}
			if i%40 == 0 {
				x.held()
				x.counts()
				x.stretches()
			}
		}
		x.held()
		x.settle()
	}
}

// counts is P15.19, asked of the FS alone.
func (x *both) counts() {
	x.t.Helper()
	entered, inside := map[uint64]int{}, map[uint64]int{}
	seen := map[uint64]api.Inode{}
	var walk func(h api.Handle)
	walk = func(h api.Handle) {
		list, end, err := x.f.ReadDir(h, 2, greatestInt)
		if err != nil || !end {
			x.t.Fatalf("ReadDir: %t, %v", end, err)
		}
		for _, entry := range list {
			o, err := x.f.Lookup(h, entry.Name)
			if err != nil || o.Inode.Number != entry.Ino {
				x.t.Fatalf("Lookup of %q: %+v, %v", entry.Name, o, err)
			}
			entered[entry.Ino]++
			seen[entry.Ino] = o.Inode
			if o.Inode.Kind == api.KindDir {
				inside[h.Number]++
				up, err := x.f.Lookup(o.Handle, "..")
				if err != nil || up.Handle != h {
					x.t.Fatalf(".. of %q: %+v, %v", entry.Name, up, err)
				}
				walk(o.Handle)
			}
		}
	}
	walk(x.f.Top())
	top, _ := x.f.GetAttr(x.f.Top())
	seen[top.Number] = top
	entered[top.Number]++
	for n, y := range seen {
		wanted := entered[n]
		if y.Kind == api.KindDir {
			if entered[n] != 1 {
				x.t.Errorf("the directory %d is entered %d times", n, entered[n])
			}
			wanted = 2 + inside[n]
		}
		if int(y.Links) != wanted {
			x.t.Errorf("the inode %d has %d links, want %d", n, y.Links, wanted)
		}
	}
	if stat, err := x.f.Stat(); err != nil || int(stat.Inodes) != len(seen) {
		x.t.Errorf("Stat: %+v, %v, and %d inodes can be come to", stat, err, len(seen))
	}
}

// TestShortLists: all lists of three of some calls on a small tree (P15.6 to P15.18).
func TestShortLists(t *testing.T) {
	t.Parallel()
	x := begun(t, wide(t))
	top := x.w.top()
	f := x.must(call{op: "create", h: top, a: "f", now: 6}).o.Handle
	d := x.must(call{op: "mkdir", h: top, a: "d", now: 6}).o.Handle
	x.must(call{op: "write", h: f, p: text(1, 2*size), now: 6})
	x.settle()
	calls := []call{
		{op: "write", h: f, at: size - 1, p: "ab", now: 7}, {op: "setattr", h: f, set: api.SetAttr{Has: api.SetSize, Size: size + 1}, now: 7},
		{op: "setattr", h: f, set: api.SetAttr{Has: api.SetSize}, now: 7}, {op: "link", h: f, h2: d, a: "g", now: 7}, {op: "remove", h: top, a: "f", now: 7},
		{op: "remove", h: d, a: "g", now: 7}, {op: "rename", h: top, a: "f", h2: d, b: "g", now: 7}, {op: "rename", h: d, a: "g", h2: top, b: "f", now: 7},
		{op: "rmdir", h: top, a: "d", now: 7}, {op: "mkdir", h: d, a: "e", now: 7}, {op: "rename", h: d, a: "e", h2: top, b: "d", now: 7},
		{op: "create", h: top, a: "f", how: api.Create{Set: api.SetAttr{Has: api.SetSize, Size: 9}}, now: 7}, {op: "symlink", h: d, a: "g", b: "x", now: 7},
	}
	x.s.freeze()
	before := x.s.taken()
	for _, first := range calls {
		for _, second := range calls {
			for _, third := range calls {
				y := x.fork()
				y.watch, y.seen = true, before
				y.do(first, second, third)
				gone, blocks := y.f.Settle(), y.f.Blocks()
				told(t, "Settle", gone, minus(y.seen, blocks)...)
				told(t, "what is taken", x.s.taken(), union(gone, blocks)...)
				y.held()
				x.s.giveBack(minus(x.s.taken(), before))
				x.s.freeze()
			}
		}
	}
}

// version is a tree that is to stay: its root, and what it has.
type version struct {
	root int
	w    *plain
}

// view is both of the version, read only.
func (v version) view(x *both, fs uint32) *both {
	out := &both{t: x.t, s: x.s, f: viewed(x.t, x.s, v.root, fs), w: v.w.copied()}
	out.w.fs, out.w.fixed = fs, true
	return out
}

// TestVersions: older roots have what they had, as long as their blocks are not given back, whatever is done on newer ones, and FS are opened on any of them; when nobody needs a root, just the others' Blocks are taken (P15.17, P15.18).
func TestVersions(t *testing.T) {
	t.Parallel()
	for seed := range 4 {
		s := spaces(t)[seed%2]
		x := begun(t, s)
		d := &drawer{d: dice(100 + seed)}
		versions := []version{{x.f.Root(), x.w.copied()}}
		for range 60 {
			from := one(&d.d, versions)
			s.freeze()
			x = &both{t: t, s: s, f: opened(t, s, from.root), w: from.w.copied()}
			for range 1 + d.d.below(25) {
				x.do(d.call(x.w))
			}
			x.held()
			if x.f.Root() != from.root {
				versions = append(versions, version{x.f.Root(), x.w.copied()})
			}
			if len(versions) > 5 {
				i := d.d.below(len(versions))
				versions = slices.Delete(versions, i, i+1)
			}
			var needed []int
			for _, v := range versions {
				needed = union(needed, opened(t, s, v.root).Blocks())
			}
			s.giveBack(minus(s.taken(), needed))
			for _, v := range versions {
				v.view(x, uint32(d.d.below(3))).held()
			}
		}
	}
}

// TestSettled: what Settle tells is what trees had on the way, also those that were there only between two calls; and just once (P15.3).
func TestSettled(t *testing.T) {
	x := yard(t, wide(t))
	first := x.f.Blocks()
	seen := first
	for i := range 20 {
		x.must(call{op: "write", h: x.at("f"), at: uint64(i * 50), p: text(i, 700), now: 50})
		seen = union(seen, x.f.Blocks())
		x.refused(call{op: "write", h: x.at("d"), p: "a"}, api.ErrIsDir)
	}
	gone := x.f.Settle()
	told(t, "Settle", gone, minus(seen, x.f.Blocks())...)
	if len(gone) <= len(first) {
		t.Errorf("Settle tells %d blocks, and the first tree had %d", len(gone), len(first))
	}
	told(t, "Settle again", x.f.Settle())
	x.must(call{op: "remove", h: x.w.top(), a: "f", now: 51})
	told(t, "Settle of one call", x.f.Settle(), minus(seen, union(x.f.Blocks(), gone))...)
}

// TestMany: many inodes and entries, and then none: few blocks all the way (P15.20, P15.18).
func TestMany(t *testing.T) {
	t.Parallel()
	d := dice(31)
	x := begun(t, wide(t))
	top := x.w.top()
	dir := top
	for i := range 1200 {
		op := one(&d, []string{"create", "create", "symlink", "mkdir", "link"})
		c := call{op: op, h: dir, h2: dir, a: long(d.below(24)) + string('a'+rune(d.below(26))) + string('a'+rune(d.below(26))), b: text(i, 1+d.below(255)), now: 6}
		if op == "link" {
			c.h = x.w.handle(uint64(1 + d.below(len(x.w.things))))
		}
		if got := x.do(c); got.e == api.OK && op == "mkdir" && d.below(3) == 0 {
			dir = got.o.Handle
		}
		if i%30 == 0 {
			x.settle()
		}
	}
	x.held()
	x.counts()
	for many := 0; len(x.w.things) > 1; {
		for _, n := range slices.Sorted(maps.Keys(x.w.things)) {
			for _, entry := range x.w.things[n].entries {
				h := x.w.handle(n)
				if x.do(call{op: "remove", h: h, a: entry.Name, now: 7}).e != api.OK {
					x.do(call{op: "rmdir", h: h, a: entry.Name, now: 7})
				}
				if many++; many%100 == 0 {
					x.settle()
					x.stretches()
				}
			}
		}
	}
	x.held()
	x.settle()
	if n := len(x.f.Blocks()); n > 1 {
		t.Errorf("%d blocks of an empty tree", n)
	}
}

// TestAFewReads: a call on a great tree reads and writes few blocks, so that no call goes over the whole tree that needs not.
func TestAFewReads(t *testing.T) {
	t.Parallel()
	s := wide(t)
	f := opened(t, s, formatted(t, s, 5))
	for i := range 3000 {
		if _, err := f.Create(f.Top(), text('a', 3)+string(rune('a'+i/26/26%26))+string(rune('a'+i/26%26))+string(rune('a'+i%26)), api.Create{}, 6); err != nil {
			t.Fatal(err)
		}
		s.giveBack(f.Settle())
	}
	before := s.calls["Read"] + s.calls["Write"]
	calls := 0
	for i := range 40 {
		name := long(10) + string(rune('a'+i))
		o, err := f.Create(f.Top(), name, api.Create{}, 7)
		_, err2 := f.Write(o.Handle, 5, []byte("ab"), 8)
		_, _, err3 := f.ReadDir(f.Top(), uint64(50*i), 5)
		err4 := f.Rename(f.Top(), name, f.Top(), "b"+name, 9)
		err5 := f.Remove(f.Top(), "b"+name, 10)
		for _, err := range []error{err, err2, err3, err4, err5} {
			if err != nil {
				t.Fatal(err)
			}
			calls++
		}
	}
	if n := s.calls["Read"] + s.calls["Write"] - before; n > 250*calls {
		t.Errorf("%d calls use the space %d times", calls, n)
	}
}
