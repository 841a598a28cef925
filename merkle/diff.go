package merkle

import (
	"cmp"
	"slices"

	"granary/api"
)

// Diff: P17.6.
func Diff(s api.Chunks, a, b api.Digest) ([]api.Differ, api.Errno) {
	w := walk{store: s}
	if e := w.dirs("", a, b); e != api.OK {
		return nil, e
	}
	return w.found, api.OK
}

// walk is what two directories are gone through with.
type walk struct {
	store api.Chunks
	found []api.Differ
}

// dirs finds what is unlike in two directories, and below them; ahead stands in front of each name.
func (w *walk) dirs(ahead string, a, b api.Digest) api.Errno {
	was, e := w.byName(a)
	if e != api.OK {
		return e
	}
	is, e := w.byName(b)
	if e != api.OK {
		return e
	}
	for len(was) > 0 || len(is) > 0 {
		switch order(was, is) {
		case -1:
			w.tell(ahead+was[0].Name, true, false)
			was = was[1:]
		case 1:
			w.tell(ahead+is[0].Name, false, true)
			is = is[1:]
		default:
			if e := w.both(ahead+was[0].Name, was[0], is[0]); e != api.OK {
				return e
			}
			was, is = was[1:], is[1:]
		}
	}
	return api.OK
}

// byName is a directory's items in the order of their names.
func (w *walk) byName(d api.Digest) ([]api.Item, api.Errno) {
	l, e := GetDir(w.store, d)
	slices.SortStableFunc(l, func(x, y api.Item) int { return cmp.Compare(x.Name, y.Name) })
	return l, e
}

// order tells which list's next name comes first: -1 a's, 1 b's, 0 both's.
func order(a, b []api.Item) int {
	switch {
	case len(a) == 0:
		return 1
	case len(b) == 0:
		return -1
	}
	return cmp.Compare(a[0].Name, b[0].Name)
}

// both finds what is unlike in two items of one name.
func (w *walk) both(path string, x, y api.Item) api.Errno {
	if x.Inode == y.Inode && x.Object == y.Object {
		return api.OK
	}
	w.tell(path, true, true)
	if x.Object == y.Object || x.Inode.Kind != api.KindDir || y.Inode.Kind != api.KindDir {
		return api.OK
	}
	return w.dirs(path+"/", x.Object, y.Object)
}

// tell tells of a path.
func (w *walk) tell(path string, was, is bool) {
	w.found = append(w.found, api.Differ{Path: path, Was: was, Is: is})
}
