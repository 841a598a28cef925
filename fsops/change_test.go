package fsops_test

import (
	"fmt"
	"slices"
	"testing"

	"granary/api"
	"granary/fsops"
)

// sets is what SetAttr, and Create, may be told to set, and what they may not.
func sets() []api.SetAttr {
	out := []api.SetAttr{
		{}, {Has: -1}, {Has: 256}, {Has: 256 + api.SetMode}, {Has: leastInt}, {Has: greatestInt},
		{Has: api.SetAtime | api.SetAtimeNow}, {Has: api.SetMtime | api.SetMtimeNow}, {Has: api.SetMode, Mode: 4096}, {Has: api.SetMode, Mode: 4095},
		{Has: api.SetSize, Size: api.MaxFile + 1}, {Has: api.SetSize, Size: greatest}, {Has: api.SetSize, Size: api.MaxFile}, {Has: api.SetSize}, {Has: api.SetSize, Size: 500},
		{Has: 63, Mode: 1, Uid: 2, Gid: 3, Size: 4, Atime: 5, Mtime: 6}, {Has: 1 + 2 + 4 + 8 + 64 + 128, Mode: 0o777, Uid: 1<<32 - 1, Gid: 9, Size: 700},
		{Has: 3, Mode: 4095, Uid: 7, Size: greatest, Atime: greatest},
	}
	for bit := 1; bit < 256; bit *= 2 {
		out = append(out, api.SetAttr{Has: bit, Mode: 0o4711, Uid: 81, Gid: 82, Size: 83, Atime: 84, Mtime: 85})
	}
	return out
}

// TestSetAttr: each handle, without a guard, with one that is right, and with one that is not, and with all that may be set or not; without a block left, too (P15.6).
func TestSetAttr(t *testing.T) {
	t.Parallel()
	x := yard(t, wide(t))
	var calls []call
	for _, h := range slices.Concat(x.good(), x.stale()[:3]) {
		right := x.w.things[h.Number].x.Ctime
		below, above := right-1, right+1
		for _, s := range sets() {
			for _, guard := range []*uint64{nil, &right, &below, &above} {
				for _, now := range []uint64{30, right} {
					calls = append(calls, call{op: "setattr", h: h, set: s, guard: guard, now: now})
				}
			}
		}
	}
	x.each(calls)
	for _, c := range []struct {
		c call
		e api.Errno
	}{
		{call{h: x.at("f"), set: api.SetAttr{Has: 256}}, api.ErrRange}, {call{h: x.at("d"), set: api.SetAttr{Has: api.SetSize}}, api.ErrRange},
		{call{h: x.at("l"), set: api.SetAttr{Has: api.SetSize, Size: 6}}, api.ErrRange}, {call{h: x.at("f"), guard: new(uint64), set: api.SetAttr{Has: 256}}, api.ErrNotSync},
		{call{h: x.stale()[0], guard: new(uint64), set: api.SetAttr{Has: 256}}, api.ErrStale},
	} {
		c.c.op = "setattr"
		x.refused(c.c, c.e)
	}
}

// TestNothingSet: where nothing is to be set nothing changes, the root neither (P15.6).
func TestNothingSet(t *testing.T) {
	x := yard(t, wide(t))
	for _, h := range x.good() {
		root, ctime := x.f.Root(), x.w.things[h.Number].x.Ctime
		if got := x.must(call{op: "setattr", h: h, guard: &ctime, now: 99}).x; got.Ctime != ctime || x.f.Root() != root {
			t.Errorf("SetAttr of nothing: %+v", got)
		}
	}
}

// TestCut: a file of some pieces, and holes, is cut off at each border; what was cut off reads as zeros when it grows again, and Blocks counts the pieces that are there (P15.6, 15.1).
func TestCut(t *testing.T) {
	t.Parallel()
	for _, few := range []uint64{0, 1, size - 1, size, size + 1, 2*size - 1, 2 * size, 2*size + 7, 3 * size, 3*size + 99, 3*size + 100, 3*size + 101, 9 * size, api.MaxFile} {
		for _, again := range []uint64{few, few + 1, 4 * size, api.MaxFile} {
			again = min(again, api.MaxFile)
			x := begun(t, wide(t))
			h := x.must(call{op: "create", h: x.w.top(), a: "f", now: 6}).o.Handle
			x.must(call{op: "write", h: h, p: text(1, size+10), now: 7})
			x.must(call{op: "write", h: h, at: 3 * size, p: text(9, 100), now: 8})
			for i, n := range []uint64{few, again, 3*size + 100} {
				got := x.must(call{op: "setattr", h: h, set: api.SetAttr{Has: api.SetSize, Size: n}, now: 9 + uint64(i)}).x
				if got.Size != n {
					t.Errorf("cut off at %d: %+v", n, got)
				}
				x.held()
				x.settle()
			}
			x.must(call{op: "write", h: h, at: 4 * size, p: "behind", now: 20})
			x.held()
		}
	}
	x := begun(t, wide(t))
	h := x.must(call{op: "create", h: x.w.top(), a: "f", now: 6}).o.Handle
	x.must(call{op: "write", h: h, p: text(1, 2000), now: 7})
	for _, c := range [][2]uint64{{1 << 20, 6}, {5*size + 1, 6}, {5 * size, 5}, {5*size - 1, 5}, {1, 1}, {0, 0}, {9999, 0}} {
		got := x.must(call{op: "setattr", h: h, set: api.SetAttr{Has: api.SetSize, Size: c[0]}, now: 9}).x
		if got.Blocks != c[1] {
			t.Errorf("cut off at %d there are %d pieces, want %d", c[0], got.Blocks, c[1])
		}
	}
}

// TestWrite: at and the length at each border, of files with and without content, and of all else; without a block left, too (P15.9).
func TestWrite(t *testing.T) {
	t.Parallel()
	x := yard(t, wide(t))
	var calls []call
	lengths := []int{0, 1, 2, size - 1, size, size + 1, api.MaxIO - 1, api.MaxIO, api.MaxIO + 1, 5000}
	for _, h := range slices.Concat(x.good(), x.stale()[:2]) {
		at := borders(x.w.things[h.Number].x.Size)
		if x.w.things[h.Number].x.Kind != api.KindFile || h != x.at("f") {
			at = []uint64{0, 700, api.MaxFile, api.MaxFile + 1, greatest}
		}
		for _, at := range at {
			for _, n := range lengths {
				calls = append(calls, call{op: "write", h: h, at: at, p: text(int(at%99), n), now: 30})
			}
		}
	}
	x.each(calls)
	for _, c := range []struct {
		c call
		e api.Errno
	}{
		{call{h: x.at("f"), p: text(1, api.MaxIO+1), at: api.MaxFile}, api.ErrLong}, {call{h: x.at("f"), p: "a", at: api.MaxFile}, api.ErrBig},
		{call{h: x.at("f"), at: api.MaxFile}, api.OK}, {call{h: x.at("f"), at: api.MaxFile + 1}, api.ErrBig}, {call{h: x.at("f"), p: "a", at: greatest}, api.ErrBig},
		{call{h: x.at("d"), p: text(1, api.MaxIO+1)}, api.ErrIsDir}, {call{h: x.at("l"), at: greatest, p: text(1, api.MaxIO+1)}, api.ErrKind},
	} {
		c.c.op = "write"
		want(t, brief(c.c), x.do(c.c).e, c.e)
	}
}

// TestWriteOfNothing: of no bytes the inode as it is, and nothing changes, the root neither (P15.9).
func TestWriteOfNothing(t *testing.T) {
	x := yard(t, wide(t))
	for _, at := range []uint64{0, 5, 9999, api.MaxFile} {
		root := x.f.Root()
		if got := x.must(call{op: "write", h: x.at("f"), at: at, now: 99}).x; got.Mtime != 11 || got.Ctime != 11 || got.Size != 2*size+205 || x.f.Root() != root {
			t.Errorf("Write of nothing: %+v", got)
		}
	}
}

// TestWriteOver: Size never gets less by Write, and Blocks counts pieces once, however often they are written (P15.9).
func TestWriteOver(t *testing.T) {
	x := begun(t, wide(t))
	h := x.must(call{op: "create", h: x.w.top(), a: "f", now: 6}).o.Handle
	for i, c := range []struct {
		at           uint64
		n            int
		size, blocks uint64
	}{{size, 1, size + 1, 1}, {size, 9, size + 9, 1}, {0, 5, size + 9, 2}, {size - 1, 2, size + 9, 2}, {5 * size, api.MaxIO, 5*size + 2048, 8}, {0, 1, 5*size + 2048, 8}, {3*size - 1, 2, 5*size + 2048, 10}} {
		now := uint64(10 + i)
		got := x.must(call{op: "write", h: h, at: c.at, p: text(i, c.n), now: now}).x
		if got.Size != c.size || got.Blocks != c.blocks || got.Mtime != now || got.Ctime != now || got.Atime != 6 {
			t.Errorf("write %d: %+v", i, got)
		}
		x.held()
	}
}

// TestWholeFile: a file is written up to MaxFile, piece by piece, and cut off, with few blocks (P15.9, P15.20).
func TestWholeFile(t *testing.T) {
	t.Parallel()
	s := wide(t)
	f := opened(t, s, formatted(t, s, 5))
	o, err := f.Create(f.Top(), "f", api.Create{}, 6)
	want(t, "Create", fsops.Code(err), api.OK)
	for at := uint64(0); at < api.MaxFile; at += api.MaxIO {
		s.peak = len(s.blocks)
		before := s.peak
		y, err := f.Write(o.Handle, at, []byte(text(int(at), api.MaxIO)), 7)
		if err != nil || y.Size != at+api.MaxIO || y.Blocks != (y.Size+size-1)/size || s.peak-before > 200 {
			t.Fatalf("Write at %d: %+v, %v, %d blocks", at, y, err, s.peak-before)
		}
		s.giveBack(f.Settle())
	}
	for _, at := range []uint64{0, 5 * api.MaxIO, api.MaxFile - api.MaxIO} {
		p, end, err := f.Read(o.Handle, at, api.MaxIO)
		if string(p) != text(int(at), api.MaxIO) || end != (at+api.MaxIO == api.MaxFile) || err != nil {
			t.Errorf("Read at %d: %t, %v", at, end, err)
		}
	}
	if n := len(f.Blocks()); n > 20+2*16+6+4*2731 {
		t.Errorf("%d blocks", n)
	}
	for _, few := range []uint64{api.MaxFile - 1, api.MaxFile / 2, 100} {
		before := len(s.blocks)
		s.peak = before
		y, err := f.SetAttr(o.Handle, api.SetAttr{Has: api.SetSize, Size: few}, nil, 8)
		if err != nil || y.Blocks != (few+size-1)/size || s.peak-before > 200 {
			t.Errorf("cut off at %d: %+v, %v, %d blocks", few, y, err, s.peak-before)
		}
		s.giveBack(f.Settle())
	}
	want(t, "Remove", fsops.Code(f.Remove(f.Top(), "f", 9)), api.OK)
	s.giveBack(f.Settle())
	told(t, "what is taken", s.taken(), f.Blocks()...)
	if n := len(f.Blocks()); n > 36 {
		t.Errorf("%d blocks of an empty tree", n)
	}
}

// hows is how something is to be created: each How, and some that are none, each bit of Set, and the Verf of the file d/f, or another.
func hows() []api.Create {
	var out []api.Create
	for _, how := range []int{api.CreateUnchecked, api.CreateGuarded, api.CreateExclusive, 3, -1, leastInt, greatestInt} {
		for i, s := range sets() {
			out = append(out, api.Create{How: how, Set: s, Verf: 76 + uint64(i%2), Uid: 5, Gid: 6})
		}
	}
	return out
}

// TestCreate: each How with all that may be set or not, of names that are there, as files, links and directories, and of some that are not, and each error ahead of those behind it; without a block left, too (P15.10).
func TestCreate(t *testing.T) {
	t.Parallel()
	x := yard(t, wide(t))
	var calls []call
	for _, how := range hows() {
		for _, name := range []string{"f", "e", "new", long(28), "", long(29)} {
			calls = append(calls, call{op: "create", h: x.at("d"), a: name, how: how, now: 30})
		}
		for _, name := range []string{"f", "l", "g", "new"} {
			calls = append(calls, call{op: "create", h: x.w.top(), a: name, how: how, now: 30})
		}
	}
	for _, h := range slices.Concat(x.good(), x.stale()) {
		for _, name := range slices.Concat(names(), badNames()) {
			for _, how := range []api.Create{{}, {How: 9}, {How: api.CreateGuarded, Set: api.SetAttr{Has: -1}}} {
				calls = append(calls, call{op: "create", h: h, a: name, how: how, now: 31})
			}
		}
	}
	x.each(calls)
}

// TestCreated: what a new file is like, and its directory behind it (P15.10).
func TestCreated(t *testing.T) {
	x := yard(t, wide(t))
	d := x.at("d")
	got := x.must(call{op: "create", h: d, a: "new", how: api.Create{Uid: 8, Gid: 9, Set: api.SetAttr{Has: api.SetMode | api.SetMtime | api.SetSize, Mode: 0o600, Mtime: 3, Size: 1000}}, now: 40}).o
	wanted := api.Inode{Number: got.Handle.Number, Generation: got.Handle.Generation, Kind: api.KindFile, Mode: 0o600, Links: 1, Uid: 8, Gid: 9, Size: 1000, Atime: 40, Mtime: 3, Ctime: 40}
	if got.Inode != wanted {
		t.Errorf("Create: %+v, want %+v", got.Inode, wanted)
	}
	if y := x.do(call{op: "getattr", h: d}).x; y.Mtime != 40 || y.Ctime != 40 || y.Links != 3 {
		t.Errorf("the directory: %+v", y)
	}
	got = x.must(call{op: "create", h: d, a: "once", how: api.Create{How: api.CreateExclusive, Verf: 123, Set: api.SetAttr{Has: -1}}, now: 41}).o
	if got.Inode.Atime != 123 || got.Inode.Mtime != 41 || got.Inode.Mode != 0o644 {
		t.Errorf("Create, exclusively: %+v", got.Inode)
	}
	root := x.f.Root()
	if again := x.must(call{op: "create", h: d, a: "once", how: api.Create{How: api.CreateExclusive, Verf: 123}, now: 42}).o; again != got || x.f.Root() != root {
		t.Errorf("Create, exclusively, again: %+v", again)
	}
	if again := x.must(call{op: "create", h: d, a: "once", now: 42}).o; again != got || x.f.Root() != root {
		t.Errorf("Create, unchecked, again: %+v", again)
	}
	x.refused(call{op: "create", h: d, a: "once", how: api.Create{How: api.CreateExclusive, Verf: 124}, now: 42}, api.ErrThere)
	x.refused(call{op: "create", h: d, a: "once", how: api.Create{How: api.CreateGuarded, Verf: 123}, now: 42}, api.ErrThere)
	x.refused(call{op: "create", h: d, a: "e", how: api.Create{}, now: 42}, api.ErrThere)
	f := x.at("f")
	cut := x.must(call{op: "create", h: x.w.top(), a: "f", how: api.Create{Set: api.SetAttr{Has: api.SetSize | api.SetMode, Mode: 1, Size: 5}}, now: 43}).o
	if cut.Handle != f || cut.Inode.Size != 5 || cut.Inode.Blocks != 1 || cut.Inode.Mode != 0o644 || cut.Inode.Mtime != 43 {
		t.Errorf("Create of a file that is there, with a size: %+v", cut)
	}
	if y := x.do(call{op: "getattr", h: x.w.top()}).x; y.Mtime == 43 {
		t.Error("the directory of a file that was there has changed")
	}
	x.refused(call{op: "create", h: x.w.top(), a: "f", how: api.Create{Set: api.SetAttr{Has: api.SetSize, Size: api.MaxFile + 1}}, now: 43}, api.ErrRange)
	x.must(call{op: "create", h: x.w.top(), a: "f", how: api.Create{Set: api.SetAttr{Has: 256 + api.SetMode, Mode: 9999}}, now: 43})
	x.held()
}

// TestMkdir: each error ahead of those behind it, and what a new directory is like, and the one it is in (P15.11).
func TestMkdir(t *testing.T) {
	t.Parallel()
	x := yard(t, wide(t))
	var calls []call
	for _, how := range hows() {
		calls = append(calls, call{op: "mkdir", h: x.at("d"), a: "new", how: how, now: 30}, call{op: "mkdir", h: x.at("d"), a: "e", how: how, now: 30})
	}
	for _, h := range slices.Concat(x.good(), x.stale()) {
		for _, name := range slices.Concat(names(), badNames()) {
			for _, has := range []int{0, -1} {
				calls = append(calls, call{op: "mkdir", h: h, a: name, how: api.Create{Set: api.SetAttr{Has: has}}, now: 31})
			}
		}
	}
	x.each(calls)
	d := x.at("d")
	got := x.must(call{op: "mkdir", h: d, a: "new", how: api.Create{How: 9, Verf: 3, Uid: 8, Gid: 9, Set: api.SetAttr{Has: api.SetAtime, Atime: 4}}, now: 40}).o
	wanted := api.Inode{Number: got.Handle.Number, Generation: got.Handle.Generation, Kind: api.KindDir, Mode: 0o755, Links: 2, Uid: 8, Gid: 9, Atime: 4, Mtime: 40, Ctime: 40}
	if got.Inode != wanted {
		t.Errorf("Mkdir: %+v, want %+v", got.Inode, wanted)
	}
	if y := x.do(call{op: "getattr", h: d}).x; y.Mtime != 40 || y.Ctime != 40 || y.Links != 4 {
		t.Errorf("the directory: %+v", y)
	}
	x.refused(call{op: "mkdir", h: d, a: "new2", how: api.Create{Set: api.SetAttr{Has: api.SetSize}}}, api.ErrRange)
}

// TestSymlink: targets of all lengths at the borders, each error ahead of those behind it, and what a new link is like (P15.11).
func TestSymlink(t *testing.T) {
	t.Parallel()
	x := yard(t, wide(t))
	targets := []string{"", "x", text(1, 8), text(1, 9), text(1, 12), text(1, 13), text(1, 104), text(1, 105), text(1, 108), text(1, 109), text(1, 254), text(1, 255), text(1, 256), text(1, 9999), "..", "/\x00"}
	var calls []call
	for _, how := range hows() {
		for _, target := range []string{"ab", ""} {
			calls = append(calls, call{op: "symlink", h: x.at("d"), a: "new", b: target, how: how, now: 30}, call{op: "symlink", h: x.at("d"), a: "e", b: target, how: how, now: 30})
		}
	}
	for _, target := range targets {
		for _, has := range []int{0, -1, api.SetSize, api.SetMode} {
			calls = append(calls, call{op: "symlink", h: x.at("v"), a: "new", b: target, how: api.Create{Set: api.SetAttr{Has: has, Size: uint64(len(target))}}, now: 31})
		}
	}
	for _, h := range slices.Concat(x.good(), x.stale()) {
		for _, name := range slices.Concat(names(), badNames()) {
			for _, target := range []string{"a", "", text(1, 256)} {
				calls = append(calls, call{op: "symlink", h: h, a: name, b: target, now: 32})
			}
		}
	}
	x.each(calls)
	got := x.must(call{op: "symlink", h: x.at("d"), a: "new", b: "ab", how: api.Create{How: 9, Uid: 8, Gid: 9}, now: 40}).o
	wanted := api.Inode{Number: got.Handle.Number, Generation: got.Handle.Generation, Kind: api.KindLink, Mode: 0o777, Links: 1, Uid: 8, Gid: 9, Size: 2, Atime: 40, Mtime: 40, Ctime: 40, Target: "ab"}
	if got.Inode != wanted {
		t.Errorf("Symlink: %+v, want %+v", got.Inode, wanted)
	}
	for _, c := range []struct {
		target string
		has    int
		e      api.Errno
	}{{"", -1, api.ErrArg}, {text(1, 256), -1, api.ErrLong}, {"a", -1, api.ErrRange}, {"a", api.SetSize, api.ErrRange}} {
		x.refused(call{op: "symlink", h: x.at("v"), a: "new", b: c.target, how: api.Create{Set: api.SetAttr{Has: c.has}}}, c.e)
	}
}

// TestLinkTargets: links whose bytes end just at the end of a key, and just behind it, are changed, linked and removed as others are.
func TestLinkTargets(t *testing.T) {
	x := begun(t, wide(t))
	for n := 1; n <= api.MaxTarget; n++ {
		h := x.must(call{op: "symlink", h: x.w.top(), a: "l", b: text(n, n), now: 6}).o.Handle
		y := x.must(call{op: "setattr", h: h, set: api.SetAttr{Has: api.SetMode, Mode: 0o4321}, now: 7}).x
		if many := fsops.Laid(y); n == 12 && many != 1 || n == 13 && many != 2 || n == 255 && many != 4 {
			t.Errorf("a link of %d bytes lies in %d keys", n, many)
		}
		x.must(call{op: "link", h: h, h2: x.w.top(), a: "m", now: 8})
		x.must(call{op: "remove", h: x.w.top(), a: "l", now: 9})
		x.heldOne(h.Number)
		x.must(call{op: "remove", h: x.w.top(), a: "m", now: 9})
		x.refused(call{op: "readlink", h: h}, api.ErrStale)
		x.settle()
	}
	if n := len(x.f.Blocks()); n > 1 {
		t.Errorf("%d blocks of an empty tree", n)
	}
}

// TestLink: each handle in each directory, by each name: each error ahead of those behind it (P15.14).
func TestLink(t *testing.T) {
	t.Parallel()
	x := yard(t, wide(t))
	var calls []call
	for _, h := range slices.Concat(x.good(), x.stale()[:4]) {
		for _, dir := range slices.Concat(x.good(), x.stale()[:4]) {
			for _, name := range []string{"f", "l", "e", "new", long(28), "", "..", long(29)} {
				calls = append(calls, call{op: "link", h: h, h2: dir, a: name, now: 30})
			}
		}
	}
	x.each(calls)
	got := x.must(call{op: "link", h: x.at("f"), h2: x.at("d"), a: "new", now: 40}).x
	if got.Links != 2 || got.Ctime != 40 || got.Mtime != 11 || got.Number != x.at("f").Number {
		t.Errorf("Link: %+v", got)
	}
	if y := x.do(call{op: "getattr", h: x.at("d")}).x; y.Mtime != 40 || y.Ctime != 40 || y.Links != 3 {
		t.Errorf("the directory: %+v", y)
	}
	if y := x.must(call{op: "link", h: x.at("l"), h2: x.at("d"), a: "l", now: 41}).x; y.Links != 2 || y.Kind != api.KindLink {
		t.Errorf("Link of a link: %+v", y)
	}
	for _, c := range []struct {
		h, dir api.Handle
		name   string
		e      api.Errno
	}{
		{x.at("d"), x.at("f"), "", api.ErrIsDir}, {x.at("f"), x.at("f"), "", api.ErrNotDir}, {x.at("f"), x.at("d"), "", api.ErrName},
		{x.at("f"), x.at("d"), "e", api.ErrThere}, {x.stale()[0], x.at("f"), "", api.ErrStale}, {x.at("d"), x.stale()[0], "", api.ErrStale},
	} {
		x.refused(call{op: "link", h: c.h, h2: c.dir, a: c.name}, c.e)
	}
}

// TestMostLinks: what has MaxLinks links is given no more: ErrLinks, ahead of ErrFull and ErrNoSpace, and behind all else (P15.11, P15.13, P15.14).
func TestMostLinks(t *testing.T) {
	for _, c := range []struct {
		links uint32
		last  uint32
	}{{api.MaxLinks - 2, 20}, {api.MaxLinks - 1, 20}, {api.MaxLinks, 20}, {api.MaxLinks - 1, 1<<32 - 1}, {api.MaxLinks, 1<<32 - 1}, {5, 1<<32 - 1}, {5, 1<<32 - 2}} {
		x := yard(t, wide(t))
		x.forgeGeneration(c.last)
		for _, h := range []api.Handle{x.at("d"), x.w.top(), x.at("g"), x.at("l")} {
			x.forgeLinks(h.Number, c.links)
		}
		d, top := x.at("d"), x.w.top()
		bad := api.Create{Set: api.SetAttr{Has: -1}}
		x.each([]call{
			{op: "mkdir", h: d, a: "new", now: 30}, {op: "mkdir", h: d, a: "e"}, {op: "mkdir", h: d, a: ""}, {op: "mkdir", h: d, a: "new", how: bad}, {op: "mkdir", h: x.at("v"), a: "new", now: 30},
			{op: "create", h: d, a: "new", now: 30}, {op: "create", h: d, a: "new", how: bad}, {op: "create", h: d, a: "f"}, {op: "create", h: d, a: "new", how: api.Create{How: 3}},
			{op: "symlink", h: d, a: "new", b: "x", now: 30}, {op: "symlink", h: d, a: "new", b: "x", how: bad}, {op: "symlink", h: d, a: "new"}, {op: "symlink", h: d, a: "e", b: "x"},
			{op: "link", h: x.at("g"), h2: d, a: "new", now: 30}, {op: "link", h: x.at("l"), h2: d, a: "new", now: 30}, {op: "link", h: x.at("g"), h2: d, a: "e"}, {op: "link", h: x.at("f"), h2: d, a: "new", now: 30},
			{op: "rename", h: top, a: "v", h2: d, b: "new", now: 30}, {op: "rename", h: top, a: "v", h2: x.at("d", "e"), b: "new", now: 30}, {op: "rename", h: top, a: "v", h2: x.at("d", "e"), b: "e", now: 30},
			{op: "rename", h: top, a: "v", h2: d, b: "f", now: 30}, {op: "rename", h: top, a: "v", h2: d, b: "e", now: 30}, {op: "rename", h: d, a: "e", h2: d, b: "new", now: 30},
			{op: "rename", h: top, a: "f", h2: d, b: "new", now: 30}, {op: "rename", h: top, a: "d", h2: d, b: "new", now: 30}, {op: "rename", h: x.at("d", "e"), a: "e", h2: top, b: "v", now: 30},
			{op: "rename", h: x.at("d", "e"), a: "e", h2: top, b: "new", now: 30}, {op: "rename", h: x.at("d", "e"), a: "e", h2: d, b: "e", now: 30}, {op: "rename", h: x.at("d", "e"), a: "e", h2: top, b: "w", now: 30},
		})
	}
}

// forgeGeneration: both have given that generation last.
func (x *both) forgeGeneration(last uint32) {
	x.t.Helper()
	want(x.t, "forge", fsops.Code(x.f.ForgeGeneration(last)), api.OK)
	x.w.last = last
	x.settle()
}

// forgeLinks: in both the inode has so many links.
func (x *both) forgeLinks(number uint64, links uint32) {
	x.t.Helper()
	want(x.t, "forge", fsops.Code(x.f.ForgeLinks(number, links)), api.OK)
	x.w.links(number, int(links)-int(x.w.things[number].x.Links))
	x.settle()
}

// TestLastGeneration: the last generation is 2^32 - 1; behind it all that would make an inode is ErrFull, and all else goes on (P15.10, 15.1).
func TestLastGeneration(t *testing.T) {
	x := yard(t, wide(t))
	x.forgeGeneration(1<<32 - 3)
	top := x.w.top()
	if h := x.must(call{op: "create", h: top, a: "a1", now: 30}).o.Handle; h.Generation != 1<<32-2 {
		t.Errorf("a generation: %v", h)
	}
	x.must(call{op: "remove", h: top, a: "a1", now: 30})
	last := x.must(call{op: "mkdir", h: top, a: "a2", now: 30}).o.Handle
	if last.Generation != 1<<32-1 {
		t.Errorf("the last generation: %v", last)
	}
	for _, c := range []call{{op: "create", h: top, a: "b"}, {op: "mkdir", h: top, a: "b"}, {op: "symlink", h: top, a: "b", b: "x"}} {
		x.refused(c, api.ErrFull)
	}
	x.must(call{op: "create", h: top, a: "f", how: api.Create{Set: api.SetAttr{Has: api.SetSize, Size: 9}}, now: 31})
	x.must(call{op: "rename", h: top, a: "f", h2: last, b: "f", now: 31})
	x.must(call{op: "link", h: x.at("g"), h2: last, a: "g", now: 31})
	x.must(call{op: "remove", h: last, a: "f", now: 31})
	x.refused(call{op: "create", h: top, a: "b"}, api.ErrFull)
	x.held()
	x.settle()
}

// TestNumbers: a new inode has the least number that none has, and the generation 1 above the last, behind removals in any order, and behind calls with an error (15.1).
func TestNumbers(t *testing.T) {
	d := dice(21)
	x := begun(t, wide(t))
	top := x.w.top()
	var there []string
	for i := range 1500 {
		grows := i/100%2 == 0
		switch {
		case d.below(5) == 0:
			x.do(call{op: "create", h: top, a: ""}, call{op: "mkdir", h: top, a: "new", how: api.Create{Set: api.SetAttr{Has: -1}}}, call{op: "rmdir", h: top, a: "none"})
		case grows || len(there) == 0:
			c := call{op: one(&d, []string{"create", "mkdir", "symlink"}), h: top, a: fmt.Sprint("n", i), b: text(i, 1+d.below(255)), now: 7}
			x.must(c)
			there = append(there, c.a)
		default:
			at := d.below(len(there))
			c := call{op: "remove", h: top, a: there[at], now: 8}
			if x.w.things[x.at(there[at]).Number].x.Kind == api.KindDir {
				c.op = "rmdir"
			}
			x.must(c)
			there = slices.Delete(there, at, at+1)
		}
		if i%50 == 0 {
			x.settle()
			x.stretches()
		}
	}
	x.held()
}

// stretches: the numbers that no inode has lie in the tree in as few stretches as can be, so that they take few blocks (P15.20).
func (x *both) stretches() {
	x.t.Helper()
	var wanted [][2]uint64
	first := uint64(1)
	for n := uint64(1); int(n) <= 4000; n++ {
		if _, is := x.w.things[n]; !is {
			continue
		}
		if first < n {
			wanted = append(wanted, [2]uint64{first, n - 1})
		}
		first = n + 1
	}
	told(x.t, "the stretches", x.f.Stretches(), append(wanted, [2]uint64{first, greatest})...)
}
