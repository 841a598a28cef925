package btree

import (
	"bytes"
	"slices"

	"granary/api"
)

// Put: P11.4.
func (b *Batch) Put(key, value []byte) {
	switch {
	case b.ended():
	case len(key) == 0:
		b.fail(api.ErrArg)
	case len(key) > api.MaxKey || len(value) > api.MaxValue:
		b.fail(api.ErrLong)
	default:
		b.change(key, func(leaf *node) bool { return leaf.put(key, value) })
	}
}

// Drop: P11.4.
func (b *Batch) Drop(key []byte) bool {
	if b.ended() || !isKey(key) {
		return false
	}
	had := false
	b.change(key, func(leaf *node) bool {
		had = leaf.drop(key)
		return had
	})
	return had && b.why == api.OK
}

// change edits the leaf of the key, where edit says whether it did something, and lays all that changes by that, up to the root.
func (b *Batch) change(key []byte, edit func(leaf *node) bool) {
	root, changed, e := b.revise(top(b.root), key, edit)
	if e == api.OK && changed {
		e = b.settleRoot(root)
	}
	if e != api.OK {
		b.fail(e)
	}
}

// revise edits the leaf of the key at the place or below it, and settles what is below the place. It answers the place's own node, and whether that has changed, so that it is to be settled, too.
func (b *Batch) revise(at place, key []byte, edit func(leaf *node) bool) (node, bool, api.Errno) {
	n, e := load(b.space, at)
	if e != api.OK {
		return node{}, false, e
	}
	if n.level == 0 {
		changed := edit(&n)
		return n, changed, api.OK
	}
	i := n.toward(key)
	child, changed, e := b.revise(n.child(i, at), key, edit)
	if e != api.OK || !changed {
		return node{}, false, e
	}
	changed, e = b.settle(&n, i, child, at)
	return n, changed, e
}

// settle lays the changed child i of the node at a place: together with its neighbour, if it has become too small, and in two blocks, if it is too large for one. It answers whether the node has changed by that.
func (b *Batch) settle(n *node, i int, child node, at place) (bool, api.Errno) {
	many := 1
	if child.size() < leastBytes && len(n.entries) > 1 {
		var e api.Errno
		if child, i, e = b.join(*n, i, child, at); e != api.OK {
			return false, e
		}
		many = 2
	}
	old := n.entries[i : i+many]
	parts := child.parts()
	blocks, e := b.lay(parts, old)
	if e != api.OK {
		return false, e
	}
	now := children(parts, blocks, old[0].key)
	changed := !slices.EqualFunc(now, old, sameChild)
	n.entries = slices.Replace(n.entries, i, i+many, now...)
	return changed, api.OK
}

// join is the child i of the node together with its neighbour, and which child the first of the two is.
func (b *Batch) join(n node, i int, child node, at place) (node, int, api.Errno) {
	if i == 0 {
		right, e := load(b.space, n.child(1, at))
		child.entries = append(child.entries, right.entries...)
		return child, 0, e
	}
	left, e := load(b.space, n.child(i-1, at))
	left.entries = append(left.entries, child.entries...)
	return left, i - 1, e
}

// children is the entries of nodes that lie in these blocks; the first one's keys are at least low.
func children(nodes []node, blocks []int, low []byte) []entry {
	out := []entry{{key: low, child: blocks[0]}}
	for i := 1; i < len(nodes); i++ {
		out = append(out, entry{key: border(nodes[i-1], nodes[i]), child: blocks[i]})
	}
	return out
}

// sameChild: two entries of a node are alike.
func sameChild(x, y entry) bool { return x.child == y.child && bytes.Equal(x.key, y.key) }

// settleRoot lays a changed root: its only child is the root then, if it has just that; and above two halves stands a new one.
func (b *Batch) settleRoot(root node) api.Errno {
	above := node{level: root.level + 1, entries: []entry{{child: b.root}}}
	if root.level > 0 && len(root.entries) == 1 {
		b.root = root.entries[0].child
		_, e := b.lay(nil, above.entries)
		return e
	}
	if _, e := b.settle(&above, 0, root, place{}); e != api.OK {
		return e
	}
	b.root = above.entries[0].child
	if len(above.entries) == 1 {
		return api.OK
	}
	blocks, e := b.lay([]node{above}, nil)
	if e == api.OK {
		b.root = blocks[0]
	}
	return e
}

// lay writes nodes that stand in the place of old ones, and answers their blocks. What the batch has taken itself it writes over, or gives back; what others have is left as it is.
func (b *Batch) lay(nodes []node, old []entry) ([]int, api.Errno) {
	var blocks []int
	for _, x := range old {
		_, own := b.taken[x.child]
		switch {
		case !own:
			b.gone = append(b.gone, x.child)
		case len(blocks) < len(nodes):
			blocks = append(blocks, x.child)
		default:
			if e := b.give(x.child); e != api.OK {
				return nil, e
			}
		}
	}
	for i, n := range nodes {
		if i == len(blocks) {
			block, e := b.take()
			if e != api.OK {
				return nil, e
			}
			blocks = append(blocks, block)
		}
		if e := b.space.Write(blocks[i], n.laid()); e != api.OK {
			return nil, e
		}
	}
	return blocks, api.OK
}

// take is a new block of the batch's own.
func (b *Batch) take() (int, api.Errno) {
	block, e := b.space.Take()
	if e == api.OK {
		b.taken[block] = struct{}{}
	}
	return block, e
}

// give gives back a block of the batch's own.
func (b *Batch) give(block int) api.Errno {
	e := b.space.Give(block)
	if e == api.OK {
		delete(b.taken, block)
	}
	return e
}
