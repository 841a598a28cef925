package btree

import (
	"bytes"

	"granary/api"
)

// anyLevel is the level of a root's place: its node tells how deep the tree is.
const anyLevel = -1

// place is where a node stands in a tree: in which block, at which level, and between which keys.
type place struct {
	block int
	level int
	low   []byte // its keys are at least that
	high  []byte // and below that; without it up to the end
}

// top is the place of a root.
func top(root int) place { return place{block: root, level: anyLevel} }

// child is the place of the node's child i, if its own is at.
func (n node) child(i int, at place) place {
	high := at.high
	if i+1 < len(n.entries) {
		high = n.entries[i+1].key
	}
	return place{block: n.entries[i].child, level: n.level - 1, low: n.entries[i].key, high: high}
}

// meets: a key of the place can be at least from and below to (without to: from from on).
func (at place) meets(from, to []byte) bool {
	return ahead(from, at.high) && ahead(at.low, to)
}

// ahead: the key is below the end, if there is one.
func ahead(key, end []byte) bool { return len(end) == 0 || bytes.Compare(key, end) < 0 }

// load is the node of a place, or ErrNode where none lies that can stand there. That it can is looked at, too, since otherwise blocks that no batch has written could lead round for ever: so the level falls on the way down, and no node stands in two places.
func load(s api.Space, at place) (node, api.Errno) {
	p, e := s.Read(at.block)
	if e != api.OK {
		return node{}, e
	}
	n, ok := read(bytes.Clone(p))
	if !ok || !n.fits(at.level) {
		return node{}, api.ErrNode
	}
	if n.level > 0 {
		n.entries[0].key = at.low
	}
	if !n.between(at.low, at.high) {
		return node{}, api.ErrNode
	}
	return n, api.OK
}

// fits: the node has the place's level, and the entries that such a one needs.
func (n node) fits(level int) bool {
	switch {
	case n.level > 0:
		return len(n.entries) > 1 && (level == anyLevel || level == n.level)
	case level == anyLevel:
		return true
	}
	return level == 0 && len(n.entries) > 0
}

// between: the node's keys are rising, at least low, and below high.
func (n node) between(low, high []byte) bool {
	for i, x := range n.entries {
		if i == 0 && bytes.Compare(x.key, low) < 0 {
			return false
		}
		if i > 0 && bytes.Compare(x.key, n.entries[i-1].key) <= 0 {
			return false
		}
		if !ahead(x.key, high) {
			return false
		}
	}
	return true
}

// visit goes over what is at the place and below it, by rising keys: enter says of each place whether its node is read, see is told the entries of each leaf that is.
func visit(s api.Space, at place, enter func(place) bool, see func([]entry)) api.Errno {
	if !enter(at) {
		return api.OK
	}
	n, e := load(s, at)
	if e != api.OK {
		return e
	}
	if n.level == 0 {
		see(n.entries)
		return api.OK
	}
	for i := range n.entries {
		if e := visit(s, n.child(i, at), enter, see); e != api.OK {
			return e
		}
	}
	return api.OK
}

// leafOf is the leaf that has the key, if the tree has it.
func leafOf(s api.Space, root int, key []byte) (node, api.Errno) {
	at := top(root)
	for {
		n, e := load(s, at)
		if e != api.OK || n.level == 0 {
			return n, e
		}
		at = n.child(n.toward(key), at)
	}
}

// lastOf is the pair with the greatest key below end (of all, without end) at the place and below it, and whether there is one.
func lastOf(s api.Space, at place, end []byte) (api.Pair, bool, api.Errno) {
	n, e := load(s, at)
	if e != api.OK {
		return api.Pair{}, false, e
	}
	many := len(n.entries)
	if len(end) > 0 {
		many, _ = n.find(end)
	}
	if n.level == 0 && many > 0 {
		return n.entries[many-1].pair(), true, api.OK
	}
	for i := many - 1; i >= 0; i-- {
		p, is, e := lastOf(s, n.child(i, at), end)
		if is || e != api.OK {
			return p, is, e
		}
	}
	return api.Pair{}, false, api.OK
}
