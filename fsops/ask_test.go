package fsops_test

import (
	"fmt"
	"slices"
	"strings"
	"testing"

	"granary/api"
)

// TestGetAttr: the inode of each handle, and ErrStale of each stale one (P15.5).
func TestGetAttr(t *testing.T) {
	x := yard(t, wide(t))
	for _, h := range x.good() {
		if got := x.must(call{op: "getattr", h: h}).x; got.Number != h.Number || got.Root != 0 {
			t.Errorf("GetAttr: %+v", got)
		}
	}
	for _, h := range x.stale() {
		x.refused(call{op: "getattr", h: h}, api.ErrStale)
	}
	if got := x.do(call{op: "getattr", h: x.at("g")}).x; got.Links != 2 || got.Uid != 3 || got.Gid != 4 || got.Ctime != 14 || got.Size != 14 || got.Blocks != 1 {
		t.Errorf("GetAttr of a file with two names: %+v", got)
	}
}

// TestStale: each call with each handle that is stale, in each place, is ErrStale, whatever else is wrong (P15.5 to P15.15).
func TestStale(t *testing.T) {
	x := yard(t, wide(t))
	guard := uint64(1)
	for _, h := range x.stale() {
		for _, c := range []call{
			{op: "getattr"}, {op: "setattr"}, {op: "setattr", guard: &guard, set: api.SetAttr{Has: -1}}, {op: "lookup", a: "f"}, {op: "lookup", a: "."}, {op: "lookup", a: ".."},
			{op: "lookup"}, {op: "readlink"}, {op: "read", n: -1}, {op: "read", n: 9}, {op: "write", p: text(1, 3000)}, {op: "write"}, {op: "write", at: greatest},
			{op: "create", a: "f"}, {op: "create", how: api.Create{How: 9}}, {op: "mkdir", a: "/"}, {op: "symlink"}, {op: "remove", a: "d"}, {op: "rmdir", a: "f"},
			{op: "rename", h2: x.at("f"), a: "", b: "f"}, {op: "rename", h2: x.at("d"), a: "d", b: "f"}, {op: "link", h2: x.at("f"), a: "f"}, {op: "link", h2: x.at("d"), a: ""},
			{op: "readdir"}, {op: "readdir", n: 9},
		} {
			c.h = h
			x.refused(c, api.ErrStale)
			if c.op == "rename" || c.op == "link" {
				c.h, c.h2 = x.at("f"), h
				x.refused(c, api.ErrStale)
				c.h = x.at("d")
				x.refused(c, api.ErrStale)
				c.h = h
				x.refused(c, api.ErrStale)
			}
		}
	}
}

// TestLookup: each handle with each name: the errors in their order, . and .. of each directory, and what entries lead to (P15.7).
func TestLookup(t *testing.T) {
	x := yard(t, wide(t))
	found := 0
	for _, h := range slices.Concat(x.good(), x.stale()) {
		for _, name := range slices.Concat(names(), badNames()) {
			if x.do(call{op: "lookup", h: h, a: name}).e == api.OK {
				found++
			}
		}
	}
	if found < 20 {
		t.Errorf("%d names lead to something", found)
	}
	d, e := x.at("d"), x.at("d", "e")
	for _, c := range []struct {
		dir  api.Handle
		name string
		h    api.Handle
	}{
		{x.w.top(), ".", x.w.top()}, {x.w.top(), "..", x.w.top()}, {d, ".", d}, {d, "..", x.w.top()}, {e, "..", d}, {x.at("d", "e", "e"), "..", e}, {d, "f", x.at("d", "f")},
	} {
		if got := x.must(call{op: "lookup", h: c.dir, a: c.name}).o; got.Handle != c.h || got.Inode.Number != c.h.Number {
			t.Errorf("Lookup of %s: %+v, want %v", c.name, got, c.h)
		}
	}
	for _, c := range []struct {
		call call
		e    api.Errno
	}{
		{call{h: x.at("f"), a: ""}, api.ErrNotDir}, {call{h: x.at("l"), a: "."}, api.ErrNotDir}, {call{h: d, a: ""}, api.ErrName}, {call{h: d, a: long(29)}, api.ErrNameLong},
		{call{h: d, a: "new"}, api.ErrNone}, {call{h: d, a: "g"}, api.ErrNone},
	} {
		c.call.op = "lookup"
		x.refused(c.call, c.e)
	}
}

// TestReadLink: the target of links of all lengths, and ErrKind of all else (P15.8).
func TestReadLink(t *testing.T) {
	x := yard(t, wide(t))
	for _, h := range x.good() {
		x.do(call{op: "readlink", h: h})
	}
	if got := x.must(call{op: "readlink", h: x.at("long")}).text; got != text(7, 255) {
		t.Errorf("the long link: %q", got)
	}
	x.refused(call{op: "readlink", h: x.at("f")}, api.ErrKind)
	x.refused(call{op: "readlink", h: x.at("d")}, api.ErrKind)
}

// borders is places in a file, and lengths: the edges of pieces, of what may be read or written at once, of the greatest file, and of the numbers.
func borders(more ...uint64) []uint64 {
	out := []uint64{0, 1, 1 << 31, 1<<32 - 1, 1 << 32, 1<<63 - 1, 1 << 63, greatest - api.MaxIO, greatest - 1, greatest}
	for _, at := range append([]uint64{size, 2 * size, 3 * size, api.MaxIO, api.MaxFile - api.MaxIO, api.MaxFile - size, api.MaxFile}, more...) {
		out = append(out, at-1, at, at+1)
	}
	return out
}

// counts is how many bytes are asked for.
func counts() []int {
	return []int{leastInt, -1, 0, 1, 2, size - 1, size, size + 1, 2 * size, api.MaxIO - 1, api.MaxIO, api.MaxIO + 1, 1 << 31, 1 << 32, greatestInt - 1, greatestInt}
}

// TestRead: at and n at each border, of files with holes and of all else (P15.8).
func TestRead(t *testing.T) {
	x := yard(t, wide(t))
	long := x.must(call{op: "create", h: x.w.top(), a: "much", now: 30}).o.Handle
	for at := 0; at < 5000; at += 1000 {
		x.must(call{op: "write", h: long, at: uint64(at), p: text(at, 1000)})
	}
	x.must(call{op: "write", h: long, at: 7000, p: text(1, 10)})
	whole := x.must(call{op: "create", h: x.w.top(), a: "whole", now: 30}).o.Handle
	x.must(call{op: "write", h: whole, at: api.MaxFile - 700, p: text(1, 700)})
	for _, h := range slices.Concat(x.good(), []api.Handle{long, whole, {}}) {
		at := borders(x.w.things[h.Number].x.Size, 4999, 7000)
		if x.w.things[h.Number].x.Kind != api.KindFile {
			at = at[:3]
		}
		for _, at := range at {
			for _, n := range counts() {
				x.do(call{op: "read", h: h, at: at, n: n})
			}
		}
	}
	for _, c := range []struct {
		at   uint64
		n    int
		text string
		end  bool
	}{
		{501, 9, text(501, 9), false}, {7000, 9, text(1, 9), false}, {7000, 10, text(1, 10), true}, {7009, 10, text(10, 1), true}, {7010, 10, "", true},
		{7011, 0, "", true}, {7010, 0, "", true}, {7009, 0, "", false}, {6990, 12, string(make([]byte, 10)) + text(1, 2), false}, {greatest, greatestInt, "", true},
	} {
		if got := x.must(call{op: "read", h: long, at: c.at, n: c.n}); got.text != c.text || got.end != c.end {
			t.Errorf("Read(%d, %d): %q, %t", c.at, c.n, got.text, got.end)
		}
	}
	if got := x.must(call{op: "read", h: long, n: 9999}); len(got.text) != api.MaxIO || got.end {
		t.Errorf("Read of much: %d bytes, %t", len(got.text), got.end)
	}
	x.refused(call{op: "read", h: x.at("d"), n: -1}, api.ErrIsDir)
	x.refused(call{op: "read", h: x.at("l"), n: -1}, api.ErrKind)
	x.refused(call{op: "read", h: long, n: -1}, api.ErrArg)
}

// TestReadDir: after at each cookie, one below and above, most at each number of entries, of directories with and without some, and of all else (P15.15).
func TestReadDir(t *testing.T) {
	x := yard(t, wide(t))
	handles := append(x.good()[:5], x.at("f"), x.at("l"), api.Handle{})
	for _, name := range []string{"g", "w", "l"} { // so that cookies lie apart
		x.must(call{op: "rename", h: x.w.top(), a: name, h2: x.at("v"), b: name, now: 31})
	}
	x.must(call{op: "rename", h: x.at("v"), a: "w", h2: x.w.top(), b: "again", now: 32})
	for _, h := range handles {
		y := x.w.things[h.Number]
		after := []uint64{0, 1, 2, 3, greatest - 1, greatest, 1 << 63}
		for _, entry := range y.entries {
			after = append(after, entry.Cookie-1, entry.Cookie, entry.Cookie+1)
		}
		many := len(y.entries)
		for _, at := range after {
			for _, n := range []int{leastInt, -1, 0, 1, 2, 3, many, many + 1, many + 2, many + 3, greatestInt} {
				x.do(call{op: "readdir", h: h, at: at, n: n})
			}
		}
	}
	got := x.must(call{op: "readdir", h: x.at("d"), n: 3})
	told(t, "ReadDir", got.entries, api.Entry{Name: ".", Ino: x.at("d").Number, Cookie: 1}, api.Entry{Name: "..", Ino: 1, Cookie: 2}, api.Entry{Name: "e", Ino: x.at("d", "e").Number, Cookie: 3})
	if got.end {
		t.Error("ReadDir: nothing is behind the third of four")
	}
	if got := x.must(call{op: "readdir", h: x.at("d"), n: 4}); !got.end {
		t.Error("ReadDir: something is behind the fourth of four")
	}
	for _, c := range []struct {
		after uint64
		n     int
		end   bool
	}{{0, 1, false}, {0, 2, true}, {1, 1, true}, {2, 1, true}} {
		if got := x.must(call{op: "readdir", h: x.at("d", "e", "e"), at: c.after, n: c.n}); got.end != c.end {
			t.Errorf("ReadDir of an empty directory after %d, at most %d: %t", c.after, c.n, got.end)
		}
	}
	x.refused(call{op: "readdir", h: x.at("f")}, api.ErrNotDir)
	x.refused(call{op: "readdir", h: x.at("d")}, api.ErrArg)
}

// TestPages: a directory that is gone over in pages of any size tells each entry once, while others come and go (P15.15).
func TestPages(t *testing.T) {
	for _, most := range []int{1, 2, 3, 7, 40, 100} {
		x := begun(t, wide(t))
		for i := range 40 {
			x.must(call{op: "create", h: x.w.top(), a: fmt.Sprint("stays ", i), now: 6})
		}
		stay := x.must(call{op: "readdir", h: x.w.top(), n: 99}).entries
		var seen []api.Entry
		after, end := uint64(0), false
		for i := 0; !end; i++ {
			got := x.must(call{op: "readdir", h: x.w.top(), at: after, n: most})
			for _, y := range got.entries {
				after = y.Cookie
				if !strings.HasPrefix(y.Name, "comes") {
					seen = append(seen, y)
				}
			}
			end = got.end
			if i < 30 {
				x.must(call{op: "create", h: x.w.top(), a: fmt.Sprint("comes ", i), now: 7})
			}
			if i > 2 && i < 30 {
				x.must(call{op: "remove", h: x.w.top(), a: fmt.Sprint("comes ", i-2), now: 8})
			}
		}
		told(t, "the pages", seen, stay...)
	}
}

// TestStat: how many inodes there are, and their Blocks, behind each kind of call (P15.15).
func TestStat(t *testing.T) {
	x := yard(t, wide(t))
	if got := x.must(call{op: "stat"}).stat; got != (api.Stat{Inodes: 12, Blocks: 3}) {
		t.Errorf("Stat: %+v", got)
	}
	top := x.w.top()
	for _, c := range []struct {
		c    call
		stat api.Stat
	}{
		{call{op: "create", h: top, a: "new", how: api.Create{Set: api.SetAttr{Has: api.SetSize, Size: 9999}}}, api.Stat{Inodes: 13, Blocks: 3}},
		{call{op: "write", h: x.at("f"), at: size, p: "a"}, api.Stat{Inodes: 13, Blocks: 4}},
		{call{op: "symlink", h: top, a: "s", b: text(1, 255)}, api.Stat{Inodes: 14, Blocks: 4}},
		{call{op: "symlink", h: top, a: "t", b: "twelve bytes"}, api.Stat{Inodes: 15, Blocks: 4}},
		{call{op: "link", h: x.at("f"), h2: top, a: "ff"}, api.Stat{Inodes: 15, Blocks: 4}},
		{call{op: "remove", h: top, a: "f"}, api.Stat{Inodes: 15, Blocks: 4}},
		{call{op: "remove", h: top, a: "ff"}, api.Stat{Inodes: 14, Blocks: 1}},
		{call{op: "mkdir", h: top, a: "f"}, api.Stat{Inodes: 15, Blocks: 1}},
		{call{op: "rename", h: top, a: "v", h2: top, b: "f"}, api.Stat{Inodes: 14, Blocks: 1}},
		{call{op: "rmdir", h: top, a: "f"}, api.Stat{Inodes: 13, Blocks: 1}},
		{call{op: "setattr", h: x.at("g"), set: api.SetAttr{Has: api.SetSize}}, api.Stat{Inodes: 13}},
	} {
		x.must(c.c)
		if got := x.must(call{op: "stat"}).stat; got != c.stat {
			t.Errorf("%s: Stat %+v, want %+v", brief(c.c), got, c.stat)
		}
	}
	x.held()
}
