package fsops

import (
	"granary/api"
	"granary/dirs"
	"granary/inode"
)

// Remove: P15.12.
func (f *FS) Remove(dir api.Handle, name string, now uint64) error {
	return alter(f, "remove", name, func(t *tree) api.Errno {
		d, x, e := t.entered(dir, name)
		if e == api.OK {
			e = refusal(x.Kind, forName)
		}
		if e == api.OK {
			t.takeOut(d.Number, name, now)
		}
		return e
	})
}

// Rmdir: P15.12.
func (f *FS) Rmdir(dir api.Handle, name string, now uint64) error {
	return alter(f, "rmdir", name, func(t *tree) api.Errno {
		d, x, e := t.entered(dir, name)
		if e == api.OK {
			e = t.emptyDir(x)
		}
		if e == api.OK {
			t.takeOut(d.Number, name, now)
		}
		return e
	})
}

// entered is the directory that the handle names, and what its entry of that name leads to: else ErrStale, ErrNotDir, Check's error, or ErrNone.
func (t *tree) entered(dir api.Handle, name string) (d, x api.Inode, e api.Errno) {
	if d, e = t.namedFor(dir, forEntries); e == api.OK {
		x, e = t.child(d.Number, name)
	}
	return d, x, e
}

// emptyDir: OK of a directory without entries; ErrNotDir; ErrNotEmpty.
func (t *tree) emptyDir(x api.Inode) api.Errno {
	if e := refusal(x.Kind, forEntries); e != api.OK {
		return e
	}
	_, empty, e := dirs.List(t.batch, x.Number, 0, 0)
	if e == api.OK && !empty {
		e = api.ErrNotEmpty
	}
	return e
}

// move is what Rename is to do.
type move struct {
	from, to api.Inode // the directories
	a, b     string
	what     api.Inode // what a leads to
	over     api.Inode // what b leads to, if it is there
	there    bool
}

// Rename: P15.13.
func (f *FS) Rename(from api.Handle, a string, to api.Handle, b string, now uint64) error {
	return alter(f, "rename", a, func(t *tree) api.Errno {
		m, e := t.planned(from, a, to, b)
		if e != api.OK || m.there && m.over.Number == m.what.Number {
			return e
		}
		if e := t.hindrance(m); e != api.OK {
			return e
		}
		t.move(m, now)
		return api.OK
	})
}

// planned is the move of these arguments: else ErrStale, ErrNotDir, Check's errors, or ErrNone.
func (t *tree) planned(from api.Handle, a string, to api.Handle, b string) (move, api.Errno) {
	m := move{a: a, b: b}
	var e api.Errno
	if m.from, e = t.named(from); e != api.OK {
		return move{}, e
	}
	if m.to, e = t.named(to); e != api.OK {
		return move{}, e
	}
	for _, e := range []api.Errno{refusal(m.from.Kind, forEntries), refusal(m.to.Kind, forEntries), dirs.Check(a), dirs.Check(b)} {
		if e != api.OK {
			return move{}, e
		}
	}
	if m.what, e = t.child(m.from.Number, a); e != api.OK {
		return move{}, e
	}
	m.over, e = t.child(m.to.Number, b)
	switch e {
	case api.OK:
		m.there = true
	case api.ErrNone:
	default:
		return move{}, e
	}
	return m, api.OK
}

// hindrance is why the move can't be, or OK.
func (t *tree) hindrance(m move) api.Errno {
	isDir := m.what.Kind == api.KindDir
	if isDir && t.isIn(m.to.Number, m.what.Number) {
		return api.ErrArg
	}
	links := m.to.Links
	if m.there {
		if e := t.replaceable(m); e != api.OK {
			return e
		}
		if m.over.Kind == api.KindDir {
			links--
		}
	}
	if isDir && m.from.Number != m.to.Number && links >= api.MaxLinks {
		return api.ErrLinks
	}
	return api.OK
}

// replaceable: what b leads to may give way to what a leads to.
func (t *tree) replaceable(m move) api.Errno {
	if m.what.Kind == api.KindDir {
		return t.emptyDir(m.over)
	}
	return refusal(m.over.Kind, forName)
}

// move does it.
func (t *tree) move(m move, now uint64) {
	if m.there {
		t.takeOut(m.to.Number, m.b, now)
	}
	_, e := dirs.Remove(t.batch, m.from.Number, m.a)
	t.meet(e)
	_, e = dirs.Add(t.batch, m.to.Number, m.b, m.what.Number)
	t.meet(e)
	t.put(inode.Touch(m.what, api.TouchCtime, now))
	by := 0
	if m.what.Kind == api.KindDir && m.from.Number != m.to.Number {
		by = 1
		t.setParent(m.what.Number, m.to.Number)
	}
	t.touchDir(m.from.Number, -by, now)
	t.touchDir(m.to.Number, by, now)
}
