package btree

import (
	"bytes"
	"slices"

	"granary/api"
)

// Blocks: P11.8.
func Blocks(s api.Space, root int) ([]int, api.Errno) {
	if s == nil {
		return nil, api.ErrNone
	}
	var out []int
	// What a leaf has does not matter, so that it needs not be read.
	enter := func(at place) bool {
		out = append(out, at.block)
		return at.level != 0
	}
	if e := visit(s, top(root), enter, func([]entry) {}); e != api.OK {
		return nil, e
	}
	slices.Sort(out)
	return out, api.OK
}

// Diff: P11.9. A block that both trees have has the same keys in both, so that no part of it needs to be read.
func Diff(s api.Space, a, b int) ([]api.Change, api.Errno) {
	blocks, e := Blocks(s, a)
	if e != api.OK {
		return nil, e
	}
	var shared []int
	now, e := pairs(s, b, func(block int) bool {
		_, both := slices.BinarySearch(blocks, block)
		if both {
			shared = append(shared, block)
		}
		return both
	})
	if e != api.OK {
		return nil, e
	}
	slices.Sort(shared)
	was, e := pairs(s, a, func(block int) bool {
		_, both := slices.BinarySearch(shared, block)
		return both
	})
	if e != api.OK {
		return nil, e
	}
	return changes(was, now), api.OK
}

// pairs is the pairs of a tree, rising, but for what is in blocks that are left out, and below them.
func pairs(s api.Space, root int, without func(block int) bool) ([]api.Pair, api.Errno) {
	var out []api.Pair
	enter := func(at place) bool { return !without(at.block) }
	see := func(entries []entry) {
		for _, x := range entries {
			out = append(out, x.pair())
		}
	}
	if e := visit(s, top(root), enter, see); e != api.OK {
		return nil, e
	}
	return out, api.OK
}

// changes is what is unlike in two rising lists of pairs, rising. It takes over their memory, of which no two pairs share any.
func changes(was, now []api.Pair) []api.Change {
	var out []api.Change
	for len(was) > 0 || len(now) > 0 {
		order := 0
		switch {
		case len(now) == 0:
			order = -1
		case len(was) == 0:
			order = 1
		default:
			order = bytes.Compare(was[0].Key, now[0].Key)
		}
		var x api.Change
		if order <= 0 {
			x.Key, x.Was, x.Had = was[0].Key, was[0].Value, true
			was = was[1:]
		}
		if order >= 0 {
			x.Key, x.Now, x.Have = now[0].Key, now[0].Value, true
			now = now[1:]
		}
		if order != 0 || !bytes.Equal(x.Was, x.Now) {
			out = append(out, x)
		}
	}
	return out
}
