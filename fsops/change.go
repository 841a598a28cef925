package fsops

import (
	"granary/api"
	"granary/dirs"
	"granary/inode"
)

// Modes of new inodes.
const (
	fileMode = 0o644
	dirMode  = 0o755
	linkMode = 0o777
)

// SetAttr: P15.6.
func (f *FS) SetAttr(h api.Handle, s api.SetAttr, guard *uint64, now uint64) (api.Inode, error) {
	return change(f, "setattr", "", func(t *tree) (api.Inode, api.Errno) {
		x, e := t.named(h)
		switch {
		case e != api.OK:
			return api.Inode{}, e
		case guard != nil && x.Ctime != *guard:
			return api.Inode{}, api.ErrNotSync
		}
		return t.set(x, s, now)
	})
}

// set: the inode is as it is behind inode.Apply, and so is its content.
func (t *tree) set(x api.Inode, s api.SetAttr, now uint64) (api.Inode, api.Errno) {
	y, sized, e := inode.Apply(x, s, now)
	if e != api.OK {
		return api.Inode{}, e
	}
	if sized && y.Size < x.Size {
		t.contents.Cut(x.Number, y.Size)
		y.Blocks = t.count(y)
	}
	t.put(y)
	return y, api.OK
}

// count is how many pieces of the file are there.
func (t *tree) count(x api.Inode) uint64 { return uint64(t.contents.Count(x.Number)) }

// Write: P15.9.
func (f *FS) Write(h api.Handle, at uint64, p []byte, now uint64) (api.Inode, error) {
	return change(f, "write", "", func(t *tree) (api.Inode, api.Errno) {
		x, e := t.namedFor(h, forBytes)
		switch {
		case e != api.OK:
			return api.Inode{}, e
		case len(p) > api.MaxIO:
			return api.Inode{}, api.ErrLong
		case at > api.MaxFile || uint64(len(p)) > api.MaxFile-at:
			return api.Inode{}, api.ErrBig
		case len(p) == 0:
			return x, api.OK
		}
		x, e = inode.Sized(x, max(x.Size, at+uint64(len(p))), now)
		if e != api.OK {
			return api.Inode{}, e
		}
		t.contents.Write(x.Number, at, p)
		x.Blocks = t.count(x)
		t.put(x)
		return x, api.OK
	})
}

// Create: P15.10.
func (f *FS) Create(dir api.Handle, name string, how api.Create, now uint64) (api.Object, error) {
	return change(f, "create", name, func(t *tree) (api.Object, api.Errno) {
		d, e := t.namedFor(dir, forEntries)
		if e != api.OK {
			return api.Object{}, e
		}
		if e := dirs.Check(name); e != api.OK {
			return api.Object{}, e
		}
		if how.How < api.CreateUnchecked || how.How > api.CreateExclusive {
			return api.Object{}, api.ErrArg
		}
		x, e := t.child(d.Number, name)
		switch e {
		case api.OK:
			return t.createAgain(x, how, now)
		case api.ErrNone:
			return t.createNew(d.Number, name, how, now)
		}
		return api.Object{}, e
	})
}

// createAgain is what Create does where the name is there, and leads to x.
func (t *tree) createAgain(x api.Inode, how api.Create, now uint64) (api.Object, api.Errno) {
	again := how.How == api.CreateUnchecked || how.How == api.CreateExclusive && x.Atime == how.Verf
	if x.Kind != api.KindFile || !again {
		return api.Object{}, api.ErrThere
	}
	if how.How == api.CreateUnchecked && how.Set.Has&api.SetSize != 0 {
		var e api.Errno
		if x, e = t.set(x, api.SetAttr{Has: api.SetSize, Size: how.Set.Size}, now); e != api.OK {
			return api.Object{}, e
		}
	}
	return t.object(x), api.OK
}

// createNew is what Create does where the name is not there.
func (t *tree) createNew(dir uint64, name string, how api.Create, now uint64) (api.Object, api.Errno) {
	if how.How == api.CreateExclusive {
		how.Set = api.SetAttr{Has: api.SetAtime, Atime: how.Verf}
	}
	x, e := draft(api.KindFile, how, now)
	if e != api.OK {
		return api.Object{}, e
	}
	return t.enter(dir, name, x, now)
}

// draft is a new file or directory but for its number and generation, in whose places stand some that may be.
func draft(kind int, how api.Create, now uint64) (api.Inode, api.Errno) {
	mode := uint32(fileMode)
	if kind == api.KindDir {
		mode = dirMode
	}
	x, e := inode.New(api.RootNumber, 1, kind, mode, how.Uid, how.Gid, now)
	if e != api.OK {
		return api.Inode{}, e
	}
	x, _, e = inode.Apply(x, how.Set, now)
	return x, e
}

// draftLink is such a draft of a link. inode.New makes none, so that it begins as a file, with nothing set.
func draftLink(target string, how api.Create, now uint64) (api.Inode, api.Errno) {
	x, e := draft(api.KindFile, api.Create{Uid: how.Uid, Gid: how.Gid}, now)
	if e != api.OK {
		return api.Inode{}, e
	}
	x.Kind, x.Mode, x.Target, x.Size = api.KindLink, linkMode, target, uint64(len(target))
	x, _, e = inode.Apply(x, how.Set, now)
	return x, e
}

// enter: an inode like the draft is there, and the directory has an entry of that name that leads to it.
func (t *tree) enter(dir uint64, name string, draft api.Inode, now uint64) (api.Object, api.Errno) {
	x, e := t.numbered(draft)
	if e != api.OK {
		return api.Object{}, e
	}
	t.place(x, dir)
	_, e = dirs.Add(t.batch, dir, name, x.Number)
	t.meet(e)
	by := 0
	if x.Kind == api.KindDir {
		by = 1
	}
	t.touchDir(dir, by, now)
	return t.object(x), api.OK
}

// vacant is the directory that the handle names, if it can have an entry of that name, and has none: else ErrStale, ErrNotDir, Check's error, or ErrThere.
func (t *tree) vacant(dir api.Handle, name string) (api.Inode, api.Errno) {
	d, e := t.namedFor(dir, forEntries)
	if e != api.OK {
		return api.Inode{}, e
	}
	switch _, e := dirs.Find(t.batch, d.Number, name); e {
	case api.ErrNone:
		return d, api.OK
	case api.OK:
		return api.Inode{}, api.ErrThere
	default:
		return api.Inode{}, e
	}
}

// Mkdir: P15.11.
func (f *FS) Mkdir(dir api.Handle, name string, how api.Create, now uint64) (api.Object, error) {
	return change(f, "mkdir", name, func(t *tree) (api.Object, api.Errno) {
		d, e := t.vacant(dir, name)
		if e != api.OK {
			return api.Object{}, e
		}
		x, e := draft(api.KindDir, how, now)
		if e != api.OK {
			return api.Object{}, e
		}
		if d.Links >= api.MaxLinks {
			return api.Object{}, api.ErrLinks
		}
		return t.enter(d.Number, name, x, now)
	})
}

// Symlink: P15.11.
func (f *FS) Symlink(dir api.Handle, name, target string, how api.Create, now uint64) (api.Object, error) {
	return change(f, "symlink", name, func(t *tree) (api.Object, api.Errno) {
		d, e := t.vacant(dir, name)
		switch {
		case e != api.OK:
			return api.Object{}, e
		case target == "":
			return api.Object{}, api.ErrArg
		case len(target) > api.MaxTarget:
			return api.Object{}, api.ErrLong
		}
		x, e := draftLink(target, how, now)
		if e != api.OK {
			return api.Object{}, e
		}
		return t.enter(d.Number, name, x, now)
	})
}

// Link: P15.14.
func (f *FS) Link(h, dir api.Handle, name string, now uint64) (api.Inode, error) {
	return change(f, "link", name, func(t *tree) (api.Inode, api.Errno) {
		x, e := t.named(h)
		if e != api.OK {
			return api.Inode{}, e
		}
		if _, e := t.named(dir); e != api.OK {
			return api.Inode{}, e
		}
		if e := refusal(x.Kind, forName); e != api.OK {
			return api.Inode{}, e
		}
		d, e := t.vacant(dir, name)
		if e != api.OK {
			return api.Inode{}, e
		}
		if x, e = inode.Linked(x, 1, now); e != api.OK {
			return api.Inode{}, e
		}
		t.put(x)
		_, e = dirs.Add(t.batch, d.Number, name, x.Number)
		t.meet(e)
		t.touchDir(d.Number, 0, now)
		return x, api.OK
	})
}
