package fsops

import (
	"math"

	"granary/api"
	"granary/dirs"
	"granary/inode"
)

// some is some of what there is, and whether nothing is behind it.
type some[T any] struct {
	list []T
	end  bool
}

// GetAttr: P15.5.
func (f *FS) GetAttr(h api.Handle) (api.Inode, error) {
	return ask(f, "getattr", "", func(t *tree) (api.Inode, api.Errno) { return t.named(h) })
}

// Lookup: P15.7.
func (f *FS) Lookup(dir api.Handle, name string) (api.Object, error) {
	return ask(f, "lookup", name, func(t *tree) (api.Object, api.Errno) {
		d, e := t.namedFor(dir, forEntries)
		if e != api.OK {
			return api.Object{}, e
		}
		x := d
		switch name {
		case ".":
		case "..":
			x, e = t.inode(t.parent(d.Number))
		default:
			x, e = t.child(d.Number, name)
		}
		return t.object(x), e
	})
}

// ReadLink: P15.8.
func (f *FS) ReadLink(h api.Handle) (string, error) {
	return ask(f, "readlink", "", func(t *tree) (string, api.Errno) {
		x, e := t.namedFor(h, forTarget)
		return x.Target, e
	})
}

// Read: P15.8.
func (f *FS) Read(h api.Handle, at uint64, n int) ([]byte, bool, error) {
	out, err := ask(f, "read", "", func(t *tree) (some[byte], api.Errno) {
		x, e := t.namedFor(h, forBytes)
		switch {
		case e != api.OK:
			return some[byte]{}, e
		case n < 0:
			return some[byte]{}, api.ErrArg
		case at >= x.Size:
			return some[byte]{end: true}, api.OK
		}
		left := x.Size - at
		n := min(uint64(n), api.MaxIO, left)
		return some[byte]{t.contents.Read(x.Number, at, int(n)), n == left}, api.OK
	})
	return out.list, out.end, err
}

// Cookies of the entries that every directory has, besides its own.
const (
	selfCookie   = 1
	parentCookie = 2
)

// ReadDir: P15.15.
func (f *FS) ReadDir(dir api.Handle, after uint64, most int) ([]api.Entry, bool, error) {
	out, err := ask(f, "readdir", "", func(t *tree) (some[api.Entry], api.Errno) {
		d, e := t.namedFor(dir, forEntries)
		switch {
		case e != api.OK:
			return some[api.Entry]{}, e
		case most < 1:
			return some[api.Entry]{}, api.ErrArg
		}
		return t.page(d.Number, after, most)
	})
	return out.list, out.end, err
}

// page is the entries of the directory whose cookies are above after, the first most of them.
func (t *tree) page(dir, after uint64, most int) (some[api.Entry], api.Errno) {
	var out []api.Entry
	if after < selfCookie {
		out = append(out, api.Entry{Name: ".", Ino: dir, Cookie: selfCookie})
	}
	if after < parentCookie && len(out) < most {
		out = append(out, api.Entry{Name: "..", Ino: t.parent(dir), Cookie: parentCookie})
	}
	told := after
	if len(out) > 0 {
		told = out[len(out)-1].Cookie
	}
	own, end, e := dirs.List(t.batch, dir, told, most-len(out))
	return some[api.Entry]{append(out, own...), end && told >= parentCookie}, e
}

// Stat: P15.15. Only a link's bytes fill a part, and it has no blocks.
func (f *FS) Stat() (api.Stat, error) {
	return ask(f, "stat", "", func(t *tree) (api.Stat, api.Errno) {
		var out api.Stat
		for _, p := range t.batch.Range([]byte{inodeLetter}, []byte{inodeLetter + 1}, math.MaxInt) {
			if p.Key[len(p.Key)-1] != 0 {
				continue
			}
			out.Inodes++
			if len(p.Value) < api.MaxValue {
				x, e := inode.Get(p.Value)
				t.meet(e)
				out.Blocks += x.Blocks
			}
		}
		return out, api.OK
	})
}
