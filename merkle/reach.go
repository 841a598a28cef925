package merkle

import (
	"slices"

	"granary/api"
)

// Children: P17.5.
func Children(s api.Chunks, d api.Digest) ([]api.Digest, api.Errno) {
	c, e := fetch(s, d)
	if e != api.OK {
		return nil, e
	}
	var behind []api.Digest
	switch c.kind {
	case api.ObjectDir:
		items, e := c.items(s)
		if e != api.OK {
			return nil, e
		}
		behind = objects(items)
		fallthrough // a directory names its own digest, too
	case api.ObjectFile, nodeMark:
		return append(c.digests, behind...), api.OK
	case leafMark:
		return nil, api.OK
	}
	return nil, api.ErrObject
}

// objects is those of the items that have one.
func objects(l []api.Item) []api.Digest {
	var out []api.Digest
	for _, x := range l {
		if !isLink(x) {
			out = append(out, x.Object)
		}
	}
	return out
}

// Reach: P17.5. What is still to be gone into lies on a stack, the next one on top.
func Reach(s api.Chunks, d api.Digest) ([]api.Digest, api.Errno) {
	var out []api.Digest
	reached := map[api.Digest]struct{}{}
	stack := []api.Digest{d}
	for len(stack) > 0 {
		top := len(stack) - 1
		d, stack = stack[top], stack[:top]
		if _, is := reached[d]; is {
			continue
		}
		reached[d] = struct{}{}
		out = append(out, d)
		under, e := Children(s, d)
		if e != api.OK {
			return nil, e
		}
		slices.Reverse(under)
		stack = append(stack, under...)
	}
	return out, api.OK
}
