package sha

import (
	"math/bits"

	"granary/api"
)

// maxClimb is of how many digests one climbs at the most.
const maxClimb = 1 << 20

// Root: P5.6.
func Root(l []api.Digest) api.Digest {
	switch len(l) {
	case 0:
		return Sum(nil)
	case 1:
		return l[0]
	}
	k := half(len(l))
	return joined(Root(l[:k]), Root(l[k:]))
}

// Path: P5.7.
func Path(l []api.Digest, i int) ([]api.Digest, api.Errno) {
	if i < 0 || i >= len(l) {
		return nil, api.ErrArg
	}
	return others(l, i), api.OK
}

// others is the Path of i, which there is.
func others(l []api.Digest, i int) []api.Digest {
	if len(l) == 1 {
		return nil
	}
	k := half(len(l))
	if i < k {
		return append(others(l[:k], i), Root(l[k:]))
	}
	return append(others(l[k:], i-k), Root(l[:k]))
}

// Climb: P5.7.
func Climb(d api.Digest, i, n int, path []api.Digest) (api.Digest, api.Errno) {
	if i < 0 || i >= n || n > maxClimb || len(path) != steps(i, n) {
		return api.Digest{}, api.ErrArg
	}
	return climbed(d, i, n, path), api.OK
}

// climbed is the Root of n digests; the path is as long as it must be.
func climbed(d api.Digest, i, n int, path []api.Digest) api.Digest {
	if n == 1 {
		return d
	}
	k, top := half(n), len(path)-1
	if i < k {
		return joined(climbed(d, i, k, path[:top]), path[top])
	}
	return joined(path[top], climbed(d, i-k, n-k, path[:top]))
}

// steps is how many digests the Path of i among n has.
func steps(i, n int) int {
	count := 0
	for ; n > 1; count++ {
		if k := half(n); i < k {
			n = k
		} else {
			i, n = i-k, n-k
		}
	}
	return count
}

// half is how many digests are the first half of n, which are more than one.
func half(n int) int { return 1 << (bits.Len(uint(n-1)) - 1) }

// joined is the digest over two. The byte ahead of them tells it from that of their mere bytes.
func joined(a, b api.Digest) api.Digest {
	h := New()
	h.Write([]byte{1})
	h.Write(a[:])
	h.Write(b[:])
	return h.Sum()
}
