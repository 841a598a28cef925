package sha_test

import (
	"math"
	"slices"
	"testing"

	"granary/api"
	"granary/sha"
)

// wantClimb: the digest, and the error.
func wantClimb(t *testing.T, d api.Digest, i, n int, path []api.Digest, want api.Digest, e api.Errno) {
	t.Helper()
	if got, gotE := sha.Climb(d, i, n, path); got != want || gotE != e {
		t.Fatalf("Climb of %d among %d by %d digests: %x, error %d, want %x, %d", i, n, len(path), got, gotE, want, e)
	}
}

// noClimb: it is refused.
func noClimb(t *testing.T, i, n int, path []api.Digest) {
	t.Helper()
	wantClimb(t, api.Digest{1}, i, n, path, api.Digest{}, api.ErrArg)
}

// wantPath: the digests, and no error.
func wantPath(t *testing.T, l []api.Digest, i int, want ...api.Digest) {
	t.Helper()
	if got, e := sha.Path(l, i); e != api.OK || !slices.Equal(got, want) {
		t.Fatalf("Path of %d among %d: %x, error %d, want %x", i, len(l), got, e, want)
	}
}

// noPath: none, and ErrArg.
func noPath(t *testing.T, l []api.Digest, i int) {
	t.Helper()
	if got, e := sha.Path(l, i); len(got) != 0 || e != api.ErrArg {
		t.Errorf("Path of %d among %d: %x, error %d", i, len(l), got, e)
	}
}

// over is the digest over two.
func over(a, b api.Digest) api.Digest { return school([]byte{1}, a[:], b[:]) }

// P5.6, P5.7: small trees, written out.
func TestSmallTrees(t *testing.T) {
	dice := dice(66)
	l := dice.digests(5)
	a, b, c, d, e := l[0], l[1], l[2], l[3], l[4]
	ab, cd := over(a, b), over(c, d)
	for n, want := range []api.Digest{school(), a, ab, over(ab, c), over(ab, cd), over(over(ab, cd), e)} {
		if got := sha.Root(l[:n]); got != want {
			t.Errorf("Root of %d: %x, want %x", n, got, want)
		}
	}
	wantPath(t, l[:1], 0)
	wantPath(t, l[:2], 0, b)
	wantPath(t, l[:2], 1, a)
	wantPath(t, l[:3], 0, b, c)
	wantPath(t, l[:3], 1, a, c)
	wantPath(t, l[:3], 2, ab)
	wantPath(t, l, 2, d, ab, e)
	wantPath(t, l, 3, c, ab, e)
	wantPath(t, l, 4, over(ab, cd))
	if sha.Root(nil) != sha.Root([]api.Digest{}) {
		t.Error("nil and an empty list are not the same")
	}
}

// P5.6, P5.7: every number of digests up to beyond 128, every i.
func TestTrees(t *testing.T) {
	dice := dice(67)
	all := dice.digests(135)
	for n := range len(all) + 1 {
		l := all[:n]
		root := schoolRoot(l)
		if got := sha.Root(l); got != root {
			t.Fatalf("Root of %d: %x, want %x", n, got, root)
		}
		for i := range l {
			path := schoolPath(l, i)
			wantPath(t, l, i, path...)
			wantClimb(t, l[i], i, n, path, root, api.OK)
		}
		for _, i := range []int{-1, n, n + 1, math.MinInt, math.MaxInt} {
			noPath(t, l, i)
		}
	}
}

// P5.7: what is in a list's spare room is not there.
func TestSpareDigests(t *testing.T) {
	dice := dice(68)
	l := dice.digests(9)
	for n := range 9 {
		for i := n; i < 9; i++ {
			noPath(t, l[:n], i)
		}
	}
	noPath(t, nil, 0)
}

// P5.7: paths that are one digest too short or too long, or none, or of another i.
func TestClimbLengths(t *testing.T) {
	dice := dice(69)
	all := dice.digests(70)
	for n := 1; n <= len(all); n++ {
		for i := range n {
			steps := len(schoolPath(all[:n], i))
			for have := range 10 {
				if have != steps {
					noClimb(t, i, n, all[:have])
				} else if _, e := sha.Climb(all[0], i, n, all[:have]); e != api.OK {
					t.Fatalf("Climb of %d among %d by %d digests: error %d", i, n, have, e)
				}
			}
		}
	}
}

// P5.7: places that are none, of every number that is none or some.
func TestClimbPlaces(t *testing.T) {
	dice := dice(70)
	all := dice.digests(70)
	for _, n := range []int{math.MinInt, -1 << 20, -2, -1, 0, 1, 2, 3, 5, 64, 65, 1 << 20} {
		for _, i := range []int{math.MinInt, -1 << 20, -2, -1, n, max(n, 0) + 1, 1<<20 + 1, math.MaxInt} {
			for _, have := range []int{0, 1, 2, 6, 7, 20, 21, 63, 64} {
				noClimb(t, i, n, all[:have])
			}
		}
	}
	wantClimb(t, all[3], 0, 1, nil, all[3], api.OK)
	wantClimb(t, all[3], 0, 1, []api.Digest{}, all[3], api.OK)
	noClimb(t, 0, 0, nil)
	noClimb(t, -1, 0, nil)
}

// P5.7: n up to 2^20, whatever length the path has beyond that.
func TestClimbMany(t *testing.T) {
	dice := dice(71)
	all := dice.digests(70)
	for _, i := range []int{0, 1, 77777, 1<<19 - 1, 1 << 19, 1<<20 - 1} {
		want := all[69]
		for step, d := range all[:20] {
			if i>>step&1 == 0 {
				want = over(want, d)
			} else {
				want = over(d, want)
			}
		}
		wantClimb(t, all[69], i, 1<<20, all[:20], want, api.OK)
	}
	wantClimb(t, all[0], 1<<19, 1<<19+1, all[1:2], over(all[1], all[0]), api.OK)
	for _, n := range []int{1<<20 + 1, 1<<20 + 2, 1 << 21, 1 << 40, math.MaxInt - 1, math.MaxInt} {
		for _, i := range []int{0, 1, 1 << 20, n / 2, n - 2, n - 1} {
			for have := range all {
				noClimb(t, i, n, all[:have])
			}
		}
	}
}

// P5.6, P5.7: a tree of as many digests as one climbs.
func TestGreatTree(t *testing.T) {
	l := make([]api.Digest, 1<<20)
	for i := range l {
		l[i] = api.Digest{byte(i), byte(i >> 8), byte(i >> 16)}
	}
	root := schoolRoot(l)
	if sha.Root(l) != root {
		t.Errorf("Root of 2^20: %x, want %x", sha.Root(l), root)
	}
	path := schoolPath(l, 654321)
	wantPath(t, l, 654321, path...)
	wantClimb(t, l[654321], 654321, len(l), path, root, api.OK)
	l = append(l, api.Digest{9})
	wantPath(t, l, 1<<20, root)
	noClimb(t, 1<<20, len(l), []api.Digest{root})
}
