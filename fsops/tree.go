package fsops

import (
	"granary/api"
	"granary/dirs"
	"granary/inode"
)

// use is what an inode is wanted for.
type use int

const (
	forBytes   use = iota // to read them, or write them
	forName               // to give it another one, or to take one from it
	forEntries            // to look for them, or to change them
	forTarget             // to be told where it leads
)

// refusal is why nothing of the kind can be used so. Bytes are only in what is named as files are: so the one question leads on to the other.
func refusal(kind int, u use) api.Errno {
	switch u {
	case forBytes:
		if kind == api.KindLink {
			return api.ErrKind
		}
		fallthrough
	case forName:
		if kind == api.KindDir {
			return api.ErrIsDir
		}
	case forEntries:
		if kind != api.KindDir {
			return api.ErrNotDir
		}
	case forTarget:
		if kind != api.KindLink {
			return api.ErrKind
		}
	}
	return api.OK
}

// inode is the inode of that number; ErrStale, if there is none. Its bytes lie in parts, since of a link they are more than a key can have.
func (t *tree) inode(number uint64) (api.Inode, api.Errno) {
	var laid []byte
	for part := range parts {
		p, _ := t.batch.Get(partKey(number, part))
		laid = append(laid, p...)
		if len(p) < api.MaxValue {
			break
		}
	}
	if len(laid) == 0 {
		return api.Inode{}, api.ErrStale
	}
	return inode.Get(laid)
}

// named is the inode that the handle names; ErrStale, if it is stale.
func (t *tree) named(h api.Handle) (api.Inode, api.Errno) {
	if h.Fs != t.fs {
		return api.Inode{}, api.ErrStale
	}
	x, e := t.inode(h.Number)
	switch {
	case e != api.OK:
		return api.Inode{}, e
	case x.Generation != h.Generation:
		return api.Inode{}, api.ErrStale
	}
	return x, api.OK
}

// namedFor is the inode that the handle names, if it can be used so.
func (t *tree) namedFor(h api.Handle, u use) (api.Inode, api.Errno) {
	x, e := t.named(h)
	if e == api.OK {
		e = refusal(x.Kind, u)
	}
	return x, e
}

// child is what the directory's entry of that name leads to; the errors of dirs.Find.
func (t *tree) child(dir uint64, name string) (api.Inode, api.Errno) {
	entry, e := dirs.Find(t.batch, dir, name)
	if e != api.OK {
		return api.Inode{}, e
	}
	return t.inode(entry.Ino)
}

// parent is the number of the directory that a directory is in.
func (t *tree) parent(dir uint64) uint64 {
	p, _ := t.batch.Get(parentKey(dir))
	return readNumber(p)
}

// setParent: the directory is in that one.
func (t *tree) setParent(dir, parent uint64) { t.batch.Put(parentKey(dir), layNumber(nil, parent)) }

// isIn: a directory is another one, or in it at any depth. The way up ends where it comes to a directory again: the root directory is in itself.
func (t *tree) isIn(dir, other uint64) bool {
	seen := map[uint64]struct{}{}
	for dir != other {
		if _, again := seen[dir]; again {
			return false
		}
		seen[dir] = struct{}{}
		dir = t.parent(dir)
	}
	return true
}

// object is the inode with its handle.
func (t *tree) object(x api.Inode) api.Object {
	return api.Object{Handle: api.Handle{Fs: t.fs, Number: x.Number, Generation: x.Generation}, Inode: x}
}

// put: the tree has the inode, in the place of another one with that number, which had as many parts.
func (t *tree) put(x api.Inode) {
	laid, e := inode.Put(x)
	t.meet(e)
	for part := 0; len(laid) > 0; part++ {
		n := min(len(laid), api.MaxValue)
		t.batch.Put(partKey(x.Number, part), laid[:n])
		laid = laid[n:]
	}
}

// numbered is an inode like the draft, with a number and a generation that were not given yet; ErrFull, if no generation is left.
func (t *tree) numbered(draft api.Inode) (api.Inode, api.Errno) {
	generation, e := t.takeGeneration()
	if e != api.OK {
		return api.Inode{}, e
	}
	draft.Number, draft.Generation = t.takeNumber(), generation
	return draft, api.OK
}

// place: the new inode is there; a directory is without entries, and in that one.
func (t *tree) place(x api.Inode, parent uint64) {
	t.put(x)
	if x.Kind == api.KindDir {
		t.meet(dirs.Make(t.batch, x.Number))
		t.setParent(x.Number, parent)
	}
}

// forget: the inode is no more, with all its content.
func (t *tree) forget(x api.Inode) {
	t.contents.Drop(x.Number)
	if x.Kind == api.KindDir {
		t.meet(dirs.Erase(t.batch, x.Number))
		t.batch.Drop(parentKey(x.Number))
	}
	for part := range parts {
		t.batch.Drop(partKey(x.Number, part))
	}
	t.freeNumber(x.Number)
}

// touchDir: the directory's entries have changed, and by more directories are in it.
func (t *tree) touchDir(dir uint64, by int, now uint64) {
	x, e := t.inode(dir)
	t.meet(e)
	x, e = inode.Linked(x, by, now)
	t.meet(e)
	t.put(inode.Touch(x, api.TouchMtime, now))
}

// takeOut: the directory has the entry no more, and what it led to is no more by that name: a directory not at all, another inode unless other names are left.
func (t *tree) takeOut(dir uint64, name string, now uint64) {
	entry, e := dirs.Remove(t.batch, dir, name)
	t.meet(e)
	x, e := t.inode(entry.Ino)
	t.meet(e)
	by := 0
	switch {
	case x.Kind == api.KindDir:
		t.forget(x)
		by = -1
	case x.Links <= 1:
		t.forget(x)
	default:
		x, e = inode.Linked(x, -1, now)
		t.meet(e)
		t.put(x)
	}
	t.touchDir(dir, by, now)
}
