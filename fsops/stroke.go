package fsops

import (
	"granary/api"
	"granary/btree"
	"granary/extents"
)

// room is a space of which every refusal to give a block is ErrNoSpace.
type room struct{ api.Space }

// Take is api.Space's.
func (r room) Take() (int, api.Errno) {
	block, e := r.Space.Take()
	if e != api.OK {
		return 0, api.ErrNoSpace
	}
	return block, api.OK
}

// tree is a tree of files as one call sees and changes it. Behind its first error nothing counts that is done to it, so that whoever changes it needs not ask each time.
type tree struct {
	batch    *btree.Batch
	contents *extents.Contents
	fs       uint32
	why      api.Errno
}

// openTree is the tree of that root, whose handles have that Fs.
func openTree(s room, root int, fs uint32) *tree {
	b := btree.Open(s, root)
	return &tree{batch: b, contents: extents.Open(b, s), fs: fs}
}

// tree is the tree as it is now, for one call.
func (f *FS) tree() *tree { return openTree(f.space, f.root, f.fs) }

// meet: the tree has the error, if it is one, and its first.
func (t *tree) meet(e api.Errno) {
	if t.why == api.OK {
		t.why = e
	}
}

// outcome is the error of a call that came to e. What the space has refused is told ahead of it: a tree that could not be read says nothing of what is in it.
func (t *tree) outcome(e api.Errno) api.Errno {
	if why := t.contents.Why(); why != api.OK {
		return why
	}
	t.meet(e)
	return t.why
}

// undo gives back all that was taken. A space that refuses a block is asked once more, since nobody would ever give that back later.
func (t *tree) undo() {
	if t.batch.Abort() != api.OK {
		t.batch.Abort()
	}
	if t.contents.Abort() != api.OK {
		t.contents.Abort()
	}
}

// ask is a call that changes nothing: its answer, or its error.
func ask[T any](f *FS, op, name string, do func(*tree) (T, api.Errno)) (T, error) {
	var none T
	if f == nil {
		return none, failure(op, name, api.ErrArg)
	}
	t := f.tree()
	out, e := do(t)
	if e = t.outcome(e); e != api.OK {
		return none, failure(op, name, e)
	}
	return out, nil
}

// change is a call that changes the tree at one stroke: at an error there is nothing of it.
func change[T any](f *FS, op, name string, do func(*tree) (T, api.Errno)) (T, error) {
	var none T
	switch {
	case f == nil:
		return none, failure(op, name, api.ErrArg)
	case f.fixed:
		return none, failure(op, name, api.ErrReadOnly)
	}
	t := f.tree()
	out, e := do(t)
	if e = t.outcome(e); e != api.OK {
		t.undo()
		return none, failure(op, name, e)
	}
	f.root = t.batch.Root()
	f.gone = append(f.gone, t.batch.Gone()...)
	f.gone = append(f.gone, t.contents.Gone()...)
	return out, nil
}

// alter is a change that answers nothing but its error.
func alter(f *FS, op, name string, do func(*tree) api.Errno) error {
	_, err := change(f, op, name, func(t *tree) (struct{}, api.Errno) { return struct{}{}, do(t) })
	return err
}
