package fsops_test

import (
	"errors"
	"fmt"
	"slices"
	"testing"

	"granary/api"
	"granary/fsops"
)

// TestFormat: the root directory alone, with its attributes, and just its blocks are taken (P15.1).
func TestFormat(t *testing.T) {
	for _, now := range []uint64{0, 1, 5, greatest} {
		for _, s := range spaces(t) {
			root := formatted(t, s, now)
			f := opened(t, s, root)
			if f.Root() != root {
				t.Errorf("Root: %d, want %d", f.Root(), root)
			}
			x := &both{t: t, s: s, f: f, w: newPlain(now)}
			x.held()
			x.settle()
			top := x.must(call{op: "getattr", h: f.Top()}).x
			if top != (api.Inode{Number: 1, Generation: 1, Kind: api.KindDir, Mode: 0o755, Links: 2, Atime: now, Mtime: now, Ctime: now}) {
				t.Errorf("the root directory: %+v", top)
			}
			told(t, "ReadDir", x.must(call{op: "readdir", h: f.Top(), n: 9}).entries, api.Entry{Name: ".", Ino: 1, Cookie: 1}, api.Entry{Name: "..", Ino: 1, Cookie: 2})
			if x.do(call{op: "stat"}).stat != (api.Stat{Inodes: 1}) {
				t.Errorf("Stat of an empty tree")
			}
			if len(f.Blocks()) > 36 {
				t.Errorf("%d blocks of an empty tree", len(f.Blocks()))
			}
		}
	}
}

// TestFormats: several trees in one space do not see each other, and an FS that is opened again has what was there (P15.1, P15.2).
func TestFormats(t *testing.T) {
	s := wide(t)
	a := begun(t, s)
	b := begun(t, s)
	if a.f.Root() == b.f.Root() {
		t.Fatal("two trees have one root")
	}
	for i := range 40 {
		a.must(call{op: "create", h: a.w.top(), a: fmt.Sprint("a", i), now: 6})
		b.must(call{op: "mkdir", h: b.w.top(), a: fmt.Sprint("b", i), now: 7})
	}
	a.s.giveBack(a.f.Settle())
	b.others = a.f.Blocks()
	b.settle()
	for _, x := range []*both{a, b} {
		x.held()
		x.fork().held()
	}
}

// TestFormatErrors: no space is ErrArg, one that has too few blocks ErrNoSpace, and nothing is taken (P15.1).
func TestFormatErrors(t *testing.T) {
	root, err := fsops.Format(nil, 5)
	want(t, "Format of no space", why(t, err, "format", ""), api.ErrArg)
	if root != 0 {
		t.Errorf("Format of no space: %d", root)
	}
	full := 0
	for ; ; full++ {
		s := newRoom(t, full)
		root, err := fsops.Format(s, 5)
		if err == nil {
			break
		}
		want(t, "Format without blocks", why(t, err, "format", ""), api.ErrNoSpace)
		if root != 0 || len(s.blocks) > 0 {
			t.Fatalf("%d blocks: %d, and %v are taken", full, root, s.taken())
		}
	}
	if full < 1 || full > 20 {
		t.Errorf("Format takes %d blocks", full)
	}
}

// TestFormatRefused: where the space refuses the n-th call, Format has that error, of Take ErrNoSpace, and nothing is taken (P15.1).
func TestFormatRefused(t *testing.T) {
	for _, of := range []string{"Take", "Write", "Read", "Give"} {
		n := 1
		for ; ; n++ {
			s := strange(t)
			s.called = func(i int) int { return 70 + i }
			s.refuseNext(of, n, errRefused)
			root, err := fsops.Format(s, 5)
			if s.refused == 0 {
				why(t, err, "format", "")
				break
			}
			e := errRefused
			if of == "Take" {
				e = api.ErrNoSpace
			}
			want(t, of+" is refused", why(t, err, "format", ""), e)
			if root != 0 || len(s.blocks) > 0 {
				t.Fatalf("the %d-th %s is refused: %d, and %v are taken", n, of, root, s.taken())
			}
		}
		if n == 1 {
			t.Errorf("Format calls no %s", of)
		}
	}
}

// TestFormatRefusedTwice: also where one of the blocks that Format gives back is refused once, nothing is taken (P15.1).
func TestFormatRefusedTwice(t *testing.T) {
	for _, of := range []string{"Take", "Write", "Read"} {
		for give := 1; give <= 3; give++ {
			for n := 2; ; n++ {
				s := wide(t)
				s.refuseNext(of, n, errRefused)
				s.refuse["Give"] = give
				_, err := fsops.Format(s, 5)
				if s.calls[of] < n {
					break
				}
				if why(t, err, "format", ""); len(s.blocks) > 0 {
					t.Errorf("the %d-th %s and the %d-th Give are refused: %v are taken", n, of, give, s.taken())
				}
			}
		}
	}
}

// TestOpen: of no space ErrArg; nothing of the space is used, and handles have the Fs (P15.2, P15.4).
func TestOpen(t *testing.T) {
	f, err := fsops.Open(nil, 3)
	want(t, "Open of no space", why(t, err, "open", ""), api.ErrArg)
	v, err := fsops.View(nil, 3, 9)
	want(t, "View of no space", why(t, err, "view", ""), api.ErrArg)
	if f != nil || v != nil {
		t.Error("beside an error something is told")
	}
	s := wide(t)
	root := formatted(t, s, 5)
	if h := opened(t, s, root).Top(); h != (api.Handle{Number: 1, Generation: 1}) {
		t.Errorf("Top: %v", h)
	}
	for _, fs := range []uint32{0, 1, 1<<32 - 1} {
		if h := viewed(t, s, root, fs).Top(); h != (api.Handle{Fs: fs, Number: 1, Generation: 1}) {
			t.Errorf("Top of a view: %v", h)
		}
	}
}

// everyCall is a call of each kind, and more that have errors.
func everyCall(x *both) []call {
	top, f, l := x.w.top(), x.at("f"), x.at("l")
	guard := uint64(1)
	return []call{
		{op: "getattr", h: f}, {op: "getattr"}, {op: "lookup", h: top, a: "f"}, {op: "lookup", h: top, a: "/"}, {op: "lookup", h: f, a: "f"},
		{op: "readlink", h: l}, {op: "readlink", h: f}, {op: "read", h: f, n: 9}, {op: "read", h: f, n: -1}, {op: "read", h: top, n: 9},
		{op: "readdir", h: top, n: 9}, {op: "readdir", h: top}, {op: "stat"},
		{op: "setattr", h: f, set: api.SetAttr{Has: api.SetMode, Mode: 1}, now: 50}, {op: "setattr", h: f, now: 50}, {op: "setattr"},
		{op: "setattr", h: f, guard: &guard}, {op: "setattr", h: f, set: api.SetAttr{Has: -1}},
		{op: "write", h: f, p: "a", now: 50}, {op: "write", h: f}, {op: "write", h: top, p: "a"}, {op: "write", h: f, p: text(1, 3000)}, {op: "write", h: f, at: greatest, p: "a"},
		{op: "create", h: top, a: "new", now: 50}, {op: "create", h: top, a: "f", now: 50}, {op: "create", h: f, a: "new"}, {op: "create", h: top, a: ".."},
		{op: "create", h: top, a: "new", how: api.Create{How: 9}}, {op: "create", h: top, a: "f", how: api.Create{How: 1}},
		{op: "mkdir", h: top, a: "new", now: 50}, {op: "mkdir", h: top, a: "f"}, {op: "mkdir", a: "new"},
		{op: "symlink", h: top, a: "new", b: "x", now: 50}, {op: "symlink", h: top, a: "new"}, {op: "symlink", h: top, a: "", b: "x"},
		{op: "remove", h: top, a: "f", now: 50}, {op: "remove", h: top, a: "d"}, {op: "remove", h: top, a: "new"},
		{op: "rmdir", h: top, a: "v", now: 50}, {op: "rmdir", h: top, a: "f"}, {op: "rmdir", h: top, a: "d"},
		{op: "rename", h: top, a: "f", h2: top, b: "new", now: 50}, {op: "rename", h: top, a: "f", h2: top, b: "f"}, {op: "rename", h: top, a: "d", h2: x.at("d"), b: "z"},
		{op: "link", h: f, h2: top, a: "new", now: 50}, {op: "link", h: top, h2: top, a: "new"}, {op: "link", h: f, h2: top, a: "f"},
	}
}

// TestView: what is asked is answered with the handles of the view; each call that would change something is ErrReadOnly, ahead of all other errors; an FS's handles are stale there, and a view's here (P15.2).
func TestView(t *testing.T) {
	for _, fs := range []uint32{0, 3, 1<<32 - 1} {
		x := yard(t, wide(t))
		x.s.freeze()
		v := &both{t: t, s: x.s, f: viewed(t, x.s, x.f.Root(), fs), w: x.w.copied()}
		v.w.fs, v.w.fixed = fs, true
		v.held()
		if v.f.Root() != x.f.Root() || !slices.Equal(v.f.Blocks(), x.f.Blocks()) || len(v.f.Settle()) > 0 {
			t.Error("a view's Root, Blocks or Settle")
		}
		changes := 0
		for _, c := range append(everyCall(v), everyCall(x)...) {
			if v.do(c); !c.asks() {
				changes++
				v.refused(c, api.ErrReadOnly)
			}
		}
		if changes < 50 {
			t.Errorf("%d calls that change something", changes)
		}
		told(t, "Settle of a view", v.f.Settle())
		if fs != 0 {
			x.refused(call{op: "getattr", h: v.w.top()}, api.ErrStale)
			v.refused(call{op: "getattr", h: x.w.top()}, api.ErrStale)
		}
	}
}

// TestViewStays: a view of an older root answers as the tree was, whatever is done behind it (P15.2, P15.17).
func TestViewStays(t *testing.T) {
	x := yard(t, wide(t))
	v := &both{t: t, s: x.s, f: viewed(t, x.s, x.f.Root(), 8), w: x.w.copied()}
	v.w.fs, v.w.fixed = 8, true
	x.s.freeze()
	for _, c := range everyCall(x) {
		x.do(c)
		v.held()
	}
	if v.w.things[1].x.Mtime == x.w.things[1].x.Mtime {
		t.Error("nothing was changed")
	}
}

// TestNil: every call on a nil FS is a *api.FsError of ErrArg, and the rest is nothing (P15.16).
func TestNil(t *testing.T) {
	var f *fsops.FS
	x := yard(t, wide(t))
	none := &plain{none: true}
	seen := map[string]int{}
	for _, c := range everyCall(x) {
		seen[c.op]++
		if got, wanted := really(t, f, c), none.plainly(c); !same(got, wanted) || wanted.e != api.ErrArg {
			t.Errorf("%s: %s, want %s", brief(c), brief(got), brief(wanted))
		}
	}
	if len(seen) != 15 {
		t.Errorf("%d calls", len(seen))
	}
	if f.Root() != 0 || len(f.Settle()) > 0 || len(f.Blocks()) > 0 || f.Top() != (api.Handle{}) {
		t.Error("Root, Settle, Blocks or Top of a nil FS")
	}
}

// wrapped is an error that wraps another one.
type wrapped struct{ err error }

func (w wrapped) Error() string { return "wrapped" }

func (w wrapped) Unwrap() error { return w.err }

// broken is an error that panics when it is asked.
type broken struct{}

func (broken) Error() string { return "broken" }

func (broken) As(any) bool { panic("broken") }

// TestCode: OK of nil, the Errno that an error is or wraps, at any depth, and ErrArg, if it wraps none (P15.16).
func TestCode(t *testing.T) {
	deep := error(api.ErrStale)
	for range 1000 {
		deep = wrapped{deep}
	}
	var none *api.FsError
	for _, c := range []struct {
		err error
		e   api.Errno
	}{
		{nil, api.OK}, {api.ErrStale, api.ErrStale}, {api.Errno(-3), -3}, {api.Errno(greatestInt), greatestInt}, {api.OK, api.OK},
		{&api.FsError{Op: "read", Err: api.ErrKind}, api.ErrKind}, {wrapped{&api.FsError{Op: "read", Err: api.ErrKind}}, api.ErrKind},
		{&api.FsError{Op: "a", Err: &api.FsError{Op: "b", Err: api.ErrBig}}, api.ErrBig}, {deep, api.ErrStale},
		{fmt.Errorf("a %w", api.ErrIsDir), api.ErrIsDir}, {fmt.Errorf("a %w, b %w", errors.New("x"), api.ErrIsDir), api.ErrIsDir},
		{errors.Join(errors.New("x"), wrapped{api.ErrNone}, api.ErrThere), api.ErrNone}, {errors.Join(api.ErrThere, api.ErrNone), api.ErrThere},
		{errors.New("x"), api.ErrArg}, {wrapped{}, api.ErrArg}, {wrapped{errors.New("x")}, api.ErrArg}, {errors.Join(errors.New("x"), errors.New("y")), api.ErrArg},
		{&api.FsError{Op: "a", Err: errors.New("x")}, api.ErrArg}, {&api.FsError{}, api.ErrArg}, {none, api.ErrArg}, {wrapped{none}, api.ErrArg}, {broken{}, api.ErrArg},
	} {
		if got := fsops.Code(c.err); got != c.e {
			t.Errorf("Code of %#v: %d, want %d", c.err, got, c.e)
		}
	}
}

// TestErrorsText: the document's example of an error.
func TestErrorsText(t *testing.T) {
	x := begun(t, wide(t))
	_, err := x.f.Create(x.f.Top(), "..", api.Create{}, 6)
	if !errors.Is(err, api.ErrName) || err.Error() != "create ..: error 130" {
		t.Errorf("%v", err)
	}
	err = x.f.Rename(x.f.Top(), "a", x.f.Top(), "/", 6)
	if !errors.Is(err, api.ErrName) || err.Error() != "rename a: error 130" {
		t.Errorf("%v", err)
	}
}

// TestExamples: the document's examples.
func TestExamples(t *testing.T) {
	x := begun(t, wide(t))
	top := x.f.Top()
	a := x.must(call{op: "create", h: top, a: "a", now: 6}).o
	if a.Handle != (api.Handle{Number: 2, Generation: 2}) || a.Inode.Mode != 0o644 || a.Inode.Links != 1 {
		t.Errorf("Create: %+v", a)
	}
	y := x.must(call{op: "write", h: a.Handle, at: 500, p: "x", now: 6}).x
	if y.Size != 501 || y.Blocks != 1 {
		t.Errorf("Write: %+v", y)
	}
	if got := x.must(call{op: "read", h: a.Handle, n: 9}); got.text != string(make([]byte, 9)) || got.end {
		t.Errorf("Read: %+v", got)
	}
	x.must(call{op: "remove", h: top, a: "a", now: 6})
	if b := x.must(call{op: "create", h: top, a: "a", now: 6}).o; b.Handle != (api.Handle{Number: 2, Generation: 3}) {
		t.Errorf("Create: %+v", b)
	}
	x.refused(call{op: "getattr", h: a.Handle}, api.ErrStale)
	d := x.must(call{op: "mkdir", h: top, a: "d", now: 6}).o
	x.refused(call{op: "rename", h: top, a: "d", h2: d.Handle, b: "e"}, api.ErrArg)
	x.refused(call{op: "rmdir", h: top, a: "a"}, api.ErrNotDir)
	x.refused(call{op: "remove", h: top, a: "d"}, api.ErrIsDir)
	x.settle()
}

// TestKinds: what each kind may and may not.
func TestKinds(t *testing.T) {
	for u, l := range [][3]api.Errno{ // of a file, a directory, a link
		{api.OK, api.ErrIsDir, api.ErrKind},
		{api.OK, api.ErrIsDir, api.OK},
		{api.ErrNotDir, api.OK, api.ErrNotDir},
		{api.ErrKind, api.ErrKind, api.OK},
	} {
		for i, kind := range []int{api.KindFile, api.KindDir, api.KindLink} {
			want(t, fmt.Sprint("kind ", kind, ", use ", u), fsops.Refusal(kind, u), l[i])
		}
	}
}
