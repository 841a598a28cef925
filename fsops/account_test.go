package fsops_test

import (
	"maps"
	"math"
	"slices"
	"testing"

	"granary/api"
	"granary/dirs"
	"granary/fsops"
	"granary/inode"
)

// Here stands what the chapter's words say, in memory and without the package: the tests hold the package against it.

// thing is an inode, and what belongs to it: of a file the bytes that were written, and the pieces that are there; of a directory the entries by rising cookies, the last cookie, and the directory it is in. One that stands in a tree is never changed, but another one put in its place.
type thing struct {
	x       api.Inode // but for Blocks
	bytes   map[uint64]byte
	there   map[uint64]struct{}
	entries []api.Entry
	cookie  uint64
	in      uint64
}

// inode is the thing's inode.
func (x thing) inode() api.Inode {
	out := x.x
	out.Blocks = uint64(len(x.there))
	return out
}

// place is where in the entries the name stands; below 0: nowhere.
func (x thing) place(name string) int {
	return slices.IndexFunc(x.entries, func(y api.Entry) bool { return y.Name == name })
}

// cut is the file with nothing from there on.
func (x thing) cut(from uint64) thing {
	x.bytes, x.there = maps.Clone(x.bytes), maps.Clone(x.there)
	maps.DeleteFunc(x.bytes, func(at uint64, _ byte) bool { return at >= from })
	maps.DeleteFunc(x.there, func(i uint64, _ struct{}) bool { return i*384 >= from })
	return x
}

// written is the file with the bytes from there on.
func (x thing) written(at uint64, p string) thing {
	bytes, there := map[uint64]byte{}, map[uint64]struct{}{}
	maps.Copy(bytes, x.bytes)
	maps.Copy(there, x.there)
	for i := range len(p) {
		bytes[at+uint64(i)] = p[i]
		there[(at+uint64(i))/384] = struct{}{}
	}
	x.bytes, x.there = bytes, there
	return x
}

// plain is a tree: its things by their numbers, the last generation, and what FS it is.
type plain struct {
	things map[uint64]thing
	last   uint32
	fs     uint32
	fixed  bool
	none   bool // a nil FS
}

// newPlain is P15.1.
func newPlain(now uint64) *plain {
	top := thing{x: api.Inode{Number: 1, Generation: 1, Kind: 2, Mode: 0o755, Links: 2, Atime: now, Mtime: now, Ctime: now}, cookie: 2, in: 1}
	return &plain{things: map[uint64]thing{1: top}, last: 1}
}

// copied is the same tree, which goes on by itself.
func (w *plain) copied() *plain {
	out := *w
	out.things = maps.Clone(w.things)
	return &out
}

// top is P15.4.
func (w *plain) top() api.Handle { return api.Handle{Fs: w.fs, Number: 1, Generation: 1} }

// handle is the handle of the thing with that number.
func (w *plain) handle(number uint64) api.Handle {
	return api.Handle{Fs: w.fs, Number: number, Generation: w.things[number].x.Generation}
}

// call is one of the FS's calls: which, and with what.
type call struct {
	op    string
	h, h2 api.Handle
	a, b  string // the names; Symlink has its target in b
	at    uint64
	n     int
	p     string
	set   api.SetAttr
	guard *uint64
	how   api.Create
	now   uint64
}

// name is what the call's error is about.
func (c call) name() string {
	switch c.op {
	case "lookup", "create", "mkdir", "symlink", "remove", "rmdir", "rename", "link":
		return c.a
	}
	return ""
}

// asks: the call changes nothing.
func (c call) asks() bool {
	return slices.Contains([]string{"getattr", "lookup", "readlink", "read", "readdir", "stat"}, c.op)
}

// answer is all that a call can answer.
type answer struct {
	e       api.Errno
	x       api.Inode
	o       api.Object
	text    string
	entries []api.Entry
	end     bool
	stat    api.Stat
}

// plainly is the call on the tree, and its answer.
func (w *plain) plainly(c call) answer {
	switch {
	case w.none:
		return answer{e: api.ErrArg}
	case w.fixed && !c.asks():
		return answer{e: api.ErrReadOnly}
	}
	next := w.copied()
	out := next.do(c)
	if out.e != api.OK {
		return answer{e: out.e}
	}
	*w = *next
	return out
}

// do is the call, of which part may have been done at an error.
func (w *plain) do(c call) answer {
	switch c.op {
	case "getattr":
		x, e := w.named(c.h)
		return answer{e: e, x: x.inode()}
	case "setattr":
		return w.setAttr(c)
	case "lookup":
		return w.lookup(c)
	case "readlink":
		return w.readLink(c)
	case "read":
		return w.read(c)
	case "write":
		return w.write(c)
	case "create":
		return w.create(c)
	case "mkdir":
		return w.mkdir(c)
	case "symlink":
		return w.symlink(c)
	case "remove":
		return w.remove(c)
	case "rmdir":
		return w.rmdir(c)
	case "rename":
		return w.rename(c)
	case "link":
		return w.link(c)
	case "readdir":
		return w.readDir(c)
	case "stat":
		out := api.Stat{Inodes: uint64(len(w.things))}
		for _, x := range w.things {
			out.Blocks += uint64(len(x.there))
		}
		return answer{stat: out}
	}
	panic("no such call: " + c.op)
}

// named is the thing that the handle names.
func (w *plain) named(h api.Handle) (thing, api.Errno) {
	x, is := w.things[h.Number]
	if !is || h.Fs != w.fs || h.Generation != x.x.Generation {
		return thing{}, api.ErrStale
	}
	return x, api.OK
}

// dir is the directory that the handle names.
func (w *plain) dir(h api.Handle) (thing, api.Errno) {
	x, e := w.named(h)
	if e == api.OK && x.x.Kind != api.KindDir {
		e = api.ErrNotDir
	}
	return x, e
}

// find is what the directory's entry of that name leads to.
func (w *plain) find(d thing, name string) (thing, bool) {
	i := d.place(name)
	if i < 0 {
		return thing{}, false
	}
	return w.things[d.entries[i].Ino], true
}

func (w *plain) object(x thing) api.Object {
	return api.Object{Handle: w.handle(x.x.Number), Inode: x.inode()}
}

// setAttr is P15.6.
func (w *plain) setAttr(c call) answer {
	x, e := w.named(c.h)
	if e != api.OK {
		return answer{e: e}
	}
	if c.guard != nil && *c.guard != x.x.Ctime {
		return answer{e: api.ErrNotSync}
	}
	x, e = w.set(x, c.set, c.now)
	return answer{e: e, x: x.inode()}
}

// set is the thing behind inode.Apply, which the tree then has.
func (w *plain) set(x thing, s api.SetAttr, now uint64) (thing, api.Errno) {
	y, _, e := inode.Apply(x.x, s, now)
	if e != api.OK {
		return thing{}, e
	}
	if y.Size < x.x.Size {
		x = x.cut(y.Size)
	}
	x.x = y
	w.things[y.Number] = x
	return x, api.OK
}

// lookup is P15.7.
func (w *plain) lookup(c call) answer {
	d, e := w.dir(c.h)
	if e != api.OK {
		return answer{e: e}
	}
	if c.a == "." {
		return answer{o: w.object(d)}
	}
	if c.a == ".." {
		return answer{o: w.object(w.things[d.in])}
	}
	if e := dirs.Check(c.a); e != api.OK {
		return answer{e: e}
	}
	x, is := w.find(d, c.a)
	if !is {
		return answer{e: api.ErrNone}
	}
	return answer{o: w.object(x)}
}

// readLink is P15.8.
func (w *plain) readLink(c call) answer {
	x, e := w.named(c.h)
	if e == api.OK && x.x.Kind != api.KindLink {
		e = api.ErrKind
	}
	return answer{e: e, text: x.x.Target}
}

// file is the file that the handle names.
func (w *plain) file(h api.Handle) (thing, api.Errno) {
	x, e := w.named(h)
	if e == api.OK && x.x.Kind == api.KindDir {
		e = api.ErrIsDir
	}
	if e == api.OK && x.x.Kind == api.KindLink {
		e = api.ErrKind
	}
	return x, e
}

// read is P15.8.
func (w *plain) read(c call) answer {
	x, e := w.file(c.h)
	if e != api.OK {
		return answer{e: e}
	}
	if c.n < 0 {
		return answer{e: api.ErrArg}
	}
	var out []byte
	at := c.at
	for ; len(out) < c.n && len(out) < 2048 && at < x.x.Size; at++ {
		out = append(out, x.bytes[at])
	}
	return answer{text: string(out), end: at >= x.x.Size}
}

// write is P15.9.
func (w *plain) write(c call) answer {
	x, e := w.file(c.h)
	switch {
	case e != api.OK:
		return answer{e: e}
	case len(c.p) > 2048:
		return answer{e: api.ErrLong}
	case c.at > 1048576 || c.at+uint64(len(c.p)) > 1048576:
		return answer{e: api.ErrBig}
	case c.p == "":
		return answer{x: x.inode()}
	}
	x = x.written(c.at, c.p)
	x.x.Size = max(x.x.Size, c.at+uint64(len(c.p)))
	x.x.Mtime, x.x.Ctime = c.now, c.now
	w.things[x.x.Number] = x
	return answer{x: x.inode()}
}

// create is P15.10.
func (w *plain) create(c call) answer {
	d, e := w.dir(c.h)
	if e != api.OK {
		return answer{e: e}
	}
	if e := dirs.Check(c.a); e != api.OK {
		return answer{e: e}
	}
	if c.how.How != 0 && c.how.How != 1 && c.how.How != 2 {
		return answer{e: api.ErrArg}
	}
	x, is := w.find(d, c.a)
	if is {
		return w.createAgain(x, c)
	}
	y := api.Inode{Kind: api.KindFile, Mode: 0o644, Links: 1}
	how := c.how
	if how.How == 2 {
		how.Set = api.SetAttr{Has: api.SetAtime, Atime: how.Verf}
	}
	return w.enter(d, y, how, c)
}

// createAgain is P15.10 of a name that the directory has.
func (w *plain) createAgain(x thing, c call) answer {
	file := x.x.Kind == api.KindFile
	switch {
	case file && c.how.How == 0 && c.how.Set.Has&api.SetSize != 0:
		x, e := w.set(x, api.SetAttr{Has: api.SetSize, Size: c.how.Set.Size}, c.now)
		if e != api.OK {
			return answer{e: e}
		}
		return answer{o: w.object(x)}
	case file && c.how.How == 0, file && c.how.How == 2 && x.x.Atime == c.how.Verf:
		return answer{o: w.object(x)}
	}
	return answer{e: api.ErrThere}
}

// enter is what a new inode and its entry do, and their errors from Apply's on.
func (w *plain) enter(d thing, x api.Inode, how api.Create, c call) answer {
	x.Number, x.Generation = 1, 1
	x.Uid, x.Gid, x.Atime, x.Mtime, x.Ctime = how.Uid, how.Gid, c.now, c.now, c.now
	y, _, e := inode.Apply(x, how.Set, c.now)
	switch {
	case e != api.OK:
		return answer{e: e}
	case x.Kind == api.KindDir && d.x.Links >= 32000:
		return answer{e: api.ErrLinks}
	case w.last == math.MaxUint32:
		return answer{e: api.ErrFull}
	}
	y.Number = 1
	for {
		if _, is := w.things[y.Number]; !is {
			break
		}
		y.Number++
	}
	w.last++
	y.Generation = w.last
	w.things[y.Number] = thing{x: y, cookie: 2, in: d.x.Number}
	w.add(d.x.Number, c.a, y.Number)
	if y.Kind == api.KindDir {
		w.links(d.x.Number, 1)
	}
	w.touch(d.x.Number, c.now)
	return answer{o: w.object(w.things[y.Number])}
}

// add: the directory has the entry, with a new cookie.
func (w *plain) add(dir uint64, name string, number uint64) {
	d := w.things[dir]
	d.cookie++
	d.entries = append(slices.Clone(d.entries), api.Entry{Name: name, Ino: number, Cookie: d.cookie})
	w.things[dir] = d
}

// links: the thing has so many links more.
func (w *plain) links(number uint64, by int) {
	x := w.things[number]
	x.x.Links = uint32(int(x.x.Links) + by)
	w.things[number] = x
}

// touch: the directory's Mtime and Ctime are now.
func (w *plain) touch(dir, now uint64) {
	d := w.things[dir]
	d.x.Mtime, d.x.Ctime = now, now
	w.things[dir] = d
}

// mkdir is P15.11.
func (w *plain) mkdir(c call) answer {
	d, e := w.vacant(c.h, c.a)
	if e != api.OK {
		return answer{e: e}
	}
	return w.enter(d, api.Inode{Kind: api.KindDir, Mode: 0o755, Links: 2}, c.how, c)
}

// vacant is the directory, which has no entry of that name.
func (w *plain) vacant(h api.Handle, name string) (thing, api.Errno) {
	d, e := w.dir(h)
	if e == api.OK {
		e = dirs.Check(name)
	}
	if _, is := w.find(d, name); e == api.OK && is {
		e = api.ErrThere
	}
	return d, e
}

// symlink is P15.11.
func (w *plain) symlink(c call) answer {
	d, e := w.vacant(c.h, c.a)
	switch {
	case e != api.OK:
		return answer{e: e}
	case c.b == "":
		return answer{e: api.ErrArg}
	case len(c.b) > 255:
		return answer{e: api.ErrLong}
	}
	return w.enter(d, api.Inode{Kind: api.KindLink, Mode: 0o777, Links: 1, Target: c.b, Size: uint64(len(c.b))}, c.how, c)
}

// entered is the directory, and what its entry of that name leads to.
func (w *plain) entered(h api.Handle, name string) (d, x thing, e api.Errno) {
	d, e = w.dir(h)
	if e == api.OK {
		e = dirs.Check(name)
	}
	x, is := w.find(d, name)
	if e == api.OK && !is {
		e = api.ErrNone
	}
	return d, x, e
}

// remove is P15.12.
func (w *plain) remove(c call) answer {
	d, x, e := w.entered(c.h, c.a)
	if e == api.OK && x.x.Kind == api.KindDir {
		e = api.ErrIsDir
	}
	if e == api.OK {
		w.unlink(d.x.Number, c.a, c.now)
		w.touch(d.x.Number, c.now)
	}
	return answer{e: e}
}

// unentered: the directory has the entry no more.
func (w *plain) unentered(dir uint64, name string) {
	d := w.things[dir]
	i := d.place(name)
	d.entries = slices.Concat(d.entries[:i], d.entries[i+1:])
	w.things[dir] = d
}

// unlink: the entry is no more, and what it led to has one link fewer, or is no more.
func (w *plain) unlink(dir uint64, name string, now uint64) {
	x, _ := w.find(w.things[dir], name)
	w.unentered(dir, name)
	n := x.x.Number
	switch {
	case x.x.Kind == api.KindDir:
		delete(w.things, n)
		w.links(dir, -1)
	case x.x.Links == 1:
		delete(w.things, n)
	default:
		x.x.Ctime = now
		w.things[n] = x
		w.links(n, -1)
	}
}

// rmdir is P15.12.
func (w *plain) rmdir(c call) answer {
	d, x, e := w.entered(c.h, c.a)
	if e == api.OK && x.x.Kind != api.KindDir {
		e = api.ErrNotDir
	}
	if e == api.OK && len(x.entries) > 0 {
		e = api.ErrNotEmpty
	}
	if e == api.OK {
		w.unlink(d.x.Number, c.a, c.now)
		w.touch(d.x.Number, c.now)
	}
	return answer{e: e}
}

// rename is P15.13.
func (w *plain) rename(c call) answer {
	from, e1 := w.named(c.h)
	to, e2 := w.named(c.h2)
	_, e3 := w.dir(c.h)
	_, e4 := w.dir(c.h2)
	for _, e := range []api.Errno{e1, e2, e3, e4, dirs.Check(c.a), dirs.Check(c.b)} {
		if e != api.OK {
			return answer{e: e}
		}
	}
	x, is := w.find(from, c.a)
	if !is {
		return answer{e: api.ErrNone}
	}
	over, there := w.find(to, c.b)
	if there && over.x.Number == x.x.Number {
		return answer{}
	}
	if e := w.hindrance(from, to, x, over, there); e != api.OK {
		return answer{e: e}
	}
	if there {
		w.unlink(to.x.Number, c.b, c.now)
	}
	w.unentered(from.x.Number, c.a)
	w.add(to.x.Number, c.b, x.x.Number)
	x.x.Ctime = c.now
	if x.x.Kind == api.KindDir {
		x.in = to.x.Number
		w.links(from.x.Number, -1)
		w.links(to.x.Number, 1)
	}
	w.things[x.x.Number] = x
	w.touch(from.x.Number, c.now)
	w.touch(to.x.Number, c.now)
	return answer{}
}

// hindrance is why x can't be moved over what to has.
func (w *plain) hindrance(from, to, x, over thing, there bool) api.Errno {
	isDir, overDir := x.x.Kind == api.KindDir, over.x.Kind == api.KindDir
	for up := to; isDir; up = w.things[up.in] {
		if up.x.Number == x.x.Number {
			return api.ErrArg
		}
		if up.x.Number == 1 {
			break
		}
	}
	links := to.x.Links
	if there {
		switch {
		case isDir && !overDir:
			return api.ErrNotDir
		case !isDir && overDir:
			return api.ErrIsDir
		case overDir && len(over.entries) > 0:
			return api.ErrNotEmpty
		case overDir:
			links--
		}
	}
	if isDir && from.x.Number != to.x.Number && links >= 32000 {
		return api.ErrLinks
	}
	return api.OK
}

// link is P15.14.
func (w *plain) link(c call) answer {
	x, e := w.named(c.h)
	if e != api.OK {
		return answer{e: e}
	}
	if _, e := w.named(c.h2); e != api.OK {
		return answer{e: e}
	}
	if x.x.Kind == api.KindDir {
		return answer{e: api.ErrIsDir}
	}
	d, e := w.vacant(c.h2, c.a)
	if e != api.OK {
		return answer{e: e}
	}
	if x.x.Links >= 32000 {
		return answer{e: api.ErrLinks}
	}
	x.x.Ctime = c.now
	w.things[x.x.Number] = x
	w.links(x.x.Number, 1)
	w.add(d.x.Number, c.a, x.x.Number)
	w.touch(d.x.Number, c.now)
	return answer{x: w.things[x.x.Number].inode()}
}

// readDir is P15.15.
func (w *plain) readDir(c call) answer {
	d, e := w.dir(c.h)
	if e == api.OK && c.n < 1 {
		e = api.ErrArg
	}
	if e != api.OK {
		return answer{e: e}
	}
	all := slices.Concat([]api.Entry{{Name: ".", Ino: d.x.Number, Cookie: 1}, {Name: "..", Ino: d.in, Cookie: 2}}, d.entries)
	all = slices.DeleteFunc(all, func(x api.Entry) bool { return x.Cookie <= c.at })
	return answer{entries: all[:min(c.n, len(all))], end: len(all) <= c.n}
}

// really is the call on the FS, and its answer.
func really(t *testing.T, f *fsops.FS, c call) answer {
	t.Helper()
	var out answer
	var err error
	switch c.op {
	case "getattr":
		out.x, err = f.GetAttr(c.h)
	case "setattr":
		out.x, err = f.SetAttr(c.h, c.set, c.guard, c.now)
	case "lookup":
		out.o, err = f.Lookup(c.h, c.a)
	case "readlink":
		out.text, err = f.ReadLink(c.h)
	case "read":
		var p []byte
		p, out.end, err = f.Read(c.h, c.at, c.n)
		out.text = string(p)
	case "write":
		out.x, err = f.Write(c.h, c.at, []byte(c.p), c.now)
	case "create":
		out.o, err = f.Create(c.h, c.a, c.how, c.now)
	case "mkdir":
		out.o, err = f.Mkdir(c.h, c.a, c.how, c.now)
	case "symlink":
		out.o, err = f.Symlink(c.h, c.a, c.b, c.how, c.now)
	case "remove":
		err = f.Remove(c.h, c.a, c.now)
	case "rmdir":
		err = f.Rmdir(c.h, c.a, c.now)
	case "rename":
		err = f.Rename(c.h, c.a, c.h2, c.b, c.now)
	case "link":
		out.x, err = f.Link(c.h, c.h2, c.a, c.now)
	case "readdir":
		out.entries, out.end, err = f.ReadDir(c.h, c.at, c.n)
	case "stat":
		out.stat, err = f.Stat()
	default:
		t.Fatalf("no such call: %s", c.op)
	}
	out.e = why(t, err, c.op, c.name())
	return out
}
