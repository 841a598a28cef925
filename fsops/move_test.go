package fsops_test

import (
	"slices"
	"testing"

	"granary/api"
)

// TestRemove: each handle with each name: each error ahead of those behind it; without a block left, too (P15.12).
func TestRemove(t *testing.T) {
	t.Parallel()
	x := yard(t, wide(t))
	var calls []call
	for _, h := range slices.Concat(x.good(), x.stale()) {
		for _, name := range slices.Concat(names(), []string{"long"}, badNames()) {
			calls = append(calls, call{op: "remove", h: h, a: name, now: 30}, call{op: "rmdir", h: h, a: name, now: 30})
		}
	}
	x.each(calls)
	for _, c := range []struct {
		op, name string
		h        api.Handle
		e        api.Errno
	}{
		{"remove", "", x.at("f"), api.ErrNotDir}, {"remove", "", x.at("d"), api.ErrName}, {"remove", "new", x.at("d"), api.ErrNone}, {"remove", "e", x.at("d"), api.ErrIsDir},
		{"rmdir", "", x.at("f"), api.ErrNotDir}, {"rmdir", "..", x.at("d"), api.ErrName}, {"rmdir", "new", x.at("d"), api.ErrNone}, {"rmdir", "f", x.at("d"), api.ErrNotDir},
		{"rmdir", "e", x.at("d"), api.ErrNotEmpty}, {"rmdir", "l", x.w.top(), api.ErrNotDir}, {"remove", "v", x.w.top(), api.ErrIsDir},
	} {
		x.refused(call{op: c.op, h: c.h, a: c.name}, c.e)
	}
}

// TestRemoved: a name less, a file that is left as long as it has another, and what becomes of the directory (P15.12).
func TestRemoved(t *testing.T) {
	x := yard(t, wide(t))
	top, g := x.w.top(), x.at("g")
	x.must(call{op: "remove", h: top, a: "g", now: 40})
	if y := x.must(call{op: "getattr", h: g}).x; y.Links != 1 || y.Ctime != 40 || y.Mtime != 13 || y.Blocks != 1 {
		t.Errorf("a file with a name less: %+v", y)
	}
	if y := x.must(call{op: "getattr", h: top}).x; y.Mtime != 40 || y.Ctime != 40 || y.Links != 5 {
		t.Errorf("its directory: %+v", y)
	}
	x.must(call{op: "write", h: g, p: "still there", now: 41})
	x.must(call{op: "remove", h: top, a: "h", now: 42})
	x.refused(call{op: "getattr", h: g}, api.ErrStale)
	x.refused(call{op: "write", h: g, p: "no more"}, api.ErrStale)
	again := x.must(call{op: "create", h: top, a: "again", now: 43}).o
	if again.Handle.Number != x.w.things[again.Handle.Number].x.Number || again.Inode.Size != 0 || again.Inode.Blocks != 0 {
		t.Errorf("a new file: %+v", again)
	}
	x.refused(call{op: "read", h: g, n: 5}, api.ErrStale)
	v := x.at("v")
	x.must(call{op: "rmdir", h: top, a: "v", now: 44})
	if y := x.must(call{op: "getattr", h: top}).x; y.Mtime != 44 || y.Links != 4 {
		t.Errorf("a directory with one less: %+v", y)
	}
	for _, c := range []call{{op: "create", h: v, a: "a"}, {op: "readdir", h: v, n: 9}, {op: "lookup", h: v, a: ".."}} {
		x.refused(c, api.ErrStale)
	}
	x.held()
	x.settle()
}

// TestAnew: a number that is given again has nothing of what it had: no content, no entries, cookies from the first one on (15.1).
func TestAnew(t *testing.T) {
	x := begun(t, wide(t))
	top := x.w.top()
	f := x.must(call{op: "create", h: top, a: "f", now: 6}).o.Handle
	x.must(call{op: "write", h: f, p: text(1, 2000), now: 6})
	x.must(call{op: "remove", h: top, a: "f", now: 6})
	d := x.must(call{op: "mkdir", h: top, a: "d", now: 6}).o.Handle
	x.must(call{op: "create", h: d, a: "a", now: 6})
	x.must(call{op: "remove", h: d, a: "a", now: 6})
	x.must(call{op: "rmdir", h: top, a: "d", now: 6})
	e := x.must(call{op: "mkdir", h: top, a: "e", now: 6}).o.Handle
	x.must(call{op: "create", h: e, a: "b", now: 6})
	if got := x.must(call{op: "readdir", h: e, at: 2, n: 9}).entries; got[0].Cookie != api.FirstCookie {
		t.Errorf("the first cookie: %v", got)
	}
	x.must(call{op: "remove", h: e, a: "b", now: 6})
	x.must(call{op: "rmdir", h: top, a: "e", now: 6})
	g := x.must(call{op: "create", h: top, a: "g", how: api.Create{Set: api.SetAttr{Has: api.SetSize, Size: 2000}}, now: 6}).o.Handle
	if got := x.must(call{op: "read", h: g, n: 2000}).text; got != string(make([]byte, 2000)) {
		t.Errorf("a file anew: %.50q", got)
	}
	for _, h := range []api.Handle{f, d, e, g} {
		if h.Number != 2 {
			t.Errorf("a number that is not the least: %v", h)
		}
	}
	x.held()
}

// TestRename: each name in each directory moved to each name in each other one: each error ahead of those behind it, and all that is done; without a block left, too (P15.13).
func TestRename(t *testing.T) {
	t.Parallel()
	x := yard(t, wide(t))
	x.must(call{op: "link", h: x.at("g"), h2: x.at("d"), a: "g", now: 25})
	x.must(call{op: "mkdir", h: x.at("w"), a: "v", now: 26})
	x.settle()
	handles := []api.Handle{x.w.top(), x.at("d"), x.at("d", "e"), x.at("d", "e", "e"), x.at("v"), x.at("w"), x.at("f"), x.at("l"), x.stale()[0], x.stale()[3]}
	var calls []call
	for _, from := range handles {
		for _, to := range handles {
			for _, a := range []string{"f", "g", "h", "l", "d", "e", "v", "w", "new", "..", long(29)} {
				for _, b := range []string{"f", "g", "l", "d", "e", "v", "w", "new", "", long(29)} {
					calls = append(calls, call{op: "rename", h: from, a: a, h2: to, b: b, now: 30})
				}
			}
		}
	}
	x.each(calls)
}

// TestRenameErrors: of each two errors that can come together the one that the document names first (P15.13).
func TestRenameErrors(t *testing.T) {
	x := yard(t, wide(t))
	top, d, e, f, v, none := x.w.top(), x.at("d"), x.at("d", "e"), x.at("f"), x.at("v"), x.stale()[0]
	for _, c := range []struct {
		from api.Handle
		a    string
		to   api.Handle
		b    string
		e    api.Errno
	}{
		{none, "", f, "", api.ErrStale}, {f, "", none, "", api.ErrStale}, {f, "", d, "", api.ErrNotDir}, {d, "", f, "", api.ErrNotDir},
		{d, long(29), d, "", api.ErrNameLong}, {d, "", d, long(29), api.ErrName}, {d, "new", d, "", api.ErrName}, {d, "new", d, "e", api.ErrNone}, {d, "new", d, "new", api.ErrNone},
		{top, "d", d, "f", api.ErrArg}, {top, "d", e, "e", api.ErrArg}, {top, "d", d, "new", api.ErrArg}, {top, "d", e, "new", api.ErrArg}, {top, "d", x.at("d", "e", "e"), "new", api.ErrArg},
		{d, "e", x.at("d", "e", "e"), "new", api.ErrArg}, {d, "e", e, "e", api.ErrArg}, {top, "d", top, "f", api.ErrNotDir}, {top, "d", top, "l", api.ErrNotDir},
		{top, "f", top, "d", api.ErrIsDir}, {top, "f", top, "v", api.ErrIsDir}, {top, "l", top, "v", api.ErrIsDir}, {top, "v", d, "e", api.ErrNotEmpty}, {e, "e", d, "e", api.ErrNotEmpty},
		{e, "e", top, "d", api.ErrNotEmpty}, {d, "f", top, "d", api.ErrIsDir}, {top, "v", top, "w", api.ErrNotEmpty}, {d, "e", top, "v", api.OK}, {v, "e", v, "f", api.ErrStale}, {top, "v", top, "u", api.OK},
	} {
		want(t, brief(c), x.do(call{op: "rename", h: c.from, a: c.a, h2: c.to, b: c.b, now: 40}).e, c.e)
	}
	x.held()
}

// TestSameInode: a name onto itself, and onto another name of the same inode, changes nothing, the root neither (P15.13).
func TestSameInode(t *testing.T) {
	x := yard(t, wide(t))
	top := x.w.top()
	x.must(call{op: "link", h: x.at("l"), h2: x.at("d"), a: "m", now: 30})
	for _, c := range []call{
		{h: top, a: "f", h2: top, b: "f"}, {h: top, a: "g", h2: top, b: "h"}, {h: top, a: "h", h2: top, b: "g"}, {h: top, a: "d", h2: top, b: "d"}, {h: top, a: "l", h2: x.at("d"), b: "m"},
	} {
		c.op, c.now = "rename", 99
		root := x.f.Root()
		x.must(c)
		if x.f.Root() != root {
			t.Errorf("%s: another root", brief(c))
		}
	}
	x.held()
}

// TestMoved: what a move leaves behind: times, links, cookies, what .. leads to, and what is no more (P15.13).
func TestMoved(t *testing.T) {
	x := yard(t, wide(t))
	top, d, e, f := x.w.top(), x.at("d"), x.at("d", "e"), x.at("f")
	x.must(call{op: "rename", h: top, a: "f", h2: d, b: "f", now: 40})
	if y := x.must(call{op: "getattr", h: f}).x; y.Ctime != 40 || y.Mtime != 11 || y.Links != 1 {
		t.Errorf("a file that moved: %+v", y)
	}
	for _, dir := range []api.Handle{top, d} {
		if y := x.must(call{op: "getattr", h: dir}).x; y.Ctime != 40 || y.Mtime != 40 {
			t.Errorf("a directory: %+v", y)
		}
	}
	told(t, "ReadDir", x.must(call{op: "readdir", h: d, at: 2, n: 9}).entries, api.Entry{Name: "e", Ino: e.Number, Cookie: 3}, api.Entry{Name: "f", Ino: f.Number, Cookie: 5})
	x.must(call{op: "rename", h: d, a: "f", h2: d, b: "g", now: 41})
	told(t, "ReadDir", x.must(call{op: "readdir", h: d, at: 2, n: 9}).entries, api.Entry{Name: "e", Ino: e.Number, Cookie: 3}, api.Entry{Name: "g", Ino: f.Number, Cookie: 6})
	v := x.at("v")
	before := x.must(call{op: "getattr", h: top}).x.Links
	x.must(call{op: "rename", h: d, a: "e", h2: top, b: "v", now: 42})
	x.refused(call{op: "getattr", h: v}, api.ErrStale)
	for _, c := range []struct {
		h     api.Handle
		links uint32
	}{{top, before}, {d, 2}, {e, 3}} {
		if y := x.must(call{op: "getattr", h: c.h}).x; y.Links != c.links || y.Ctime != 42 {
			t.Errorf("links: %+v, want %d", y, c.links)
		}
	}
	if o := x.must(call{op: "lookup", h: e, a: ".."}).o; o.Handle != top {
		t.Errorf(".. of a directory that moved: %+v", o)
	}
	g := x.at("g")
	x.must(call{op: "rename", h: top, a: "l", h2: top, b: "g", now: 43})
	if y := x.must(call{op: "getattr", h: g}).x; y.Links != 1 || y.Ctime != 43 {
		t.Errorf("a file that has lost a name to another: %+v", y)
	}
	x.must(call{op: "rename", h: top, a: "g", h2: top, b: "h", now: 44})
	x.refused(call{op: "getattr", h: g}, api.ErrStale)
	x.must(call{op: "rename", h: top, a: "v", h2: top, b: "u", now: 45})
	x.must(call{op: "rename", h: top, a: "w", h2: x.at("u", "e"), b: "w", now: 46})
	x.held()
	x.settle()
}

// TestDeep: directories in one another, many deep: none is moved into itself or below it, and each can be moved out (P15.13).
func TestDeep(t *testing.T) {
	x := begun(t, wide(t))
	l := []api.Handle{x.w.top()}
	for range 60 {
		l = append(l, x.must(call{op: "mkdir", h: l[len(l)-1], a: "d", now: 6}).o.Handle)
	}
	for i := 1; i < len(l); i += 7 {
		for j := range l {
			c := call{op: "rename", h: l[i-1], a: "d", h2: l[j], b: "new", now: 7}
			if j >= i {
				x.refused(c, api.ErrArg)
			}
		}
	}
	x.must(call{op: "rename", h: l[29], a: "d", h2: l[0], b: "half", now: 8})
	x.must(call{op: "rename", h: l[0], a: "d", h2: l[60], b: "other", now: 9})
	x.refused(call{op: "rename", h: l[0], a: "half", h2: l[29], b: "x"}, api.ErrArg)
	x.held()
	x.settle()
}
