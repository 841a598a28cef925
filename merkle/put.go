package merkle

import (
	"slices"

	"granary/api"
)

// Put: P17.2.
func Put(s api.Chunks, kind byte, p []byte) (api.Digest, api.Errno) {
	switch {
	case s == nil || kind != api.ObjectFile && kind != api.ObjectDir:
		return api.Digest{}, api.ErrArg
	case len(p) > api.MaxFile:
		return api.Digest{}, api.ErrLong
	}
	level, e := putLeaves(s, p)
	for e == api.OK && len(level) > 1 {
		level, e = putNodes(s, level)
	}
	if e != api.OK {
		return api.Digest{}, e
	}
	root := api.Digest{}
	if len(level) > 0 {
		root = level[0]
	}
	return put(s, head(kind, len(p), root))
}

// putLeaves puts the pieces of the bytes: their digests.
func putLeaves(s api.Chunks, p []byte) ([]api.Digest, api.Errno) {
	var out []api.Digest
	for piece := range slices.Chunk(p, api.LeafSize) {
		d, e := put(s, leaf(piece))
		if e != api.OK {
			return nil, e
		}
		out = append(out, d)
	}
	return out, api.OK
}

// putNodes puts the nodes of a level's digests: the digests of the level above it, which a digest that is left alone is one of.
func putNodes(s api.Chunks, level []api.Digest) ([]api.Digest, api.Errno) {
	var out []api.Digest
	for group := range slices.Chunk(level, api.NodeSize) {
		d, e := group[0], api.OK
		if len(group) >= leastNode {
			d, e = put(s, node(group))
		}
		if e != api.OK {
			return nil, e
		}
		out = append(out, d)
	}
	return out, api.OK
}
