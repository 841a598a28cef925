package merkle_test

import (
	"maps"
	"slices"
	"strings"
	"testing"

	"granary/api"
	"granary/merkle"
)

// TestChildrenForms: chunks of each form, with one part too few and too many (P17.5).
func TestChildrenForms(t *testing.T) {
	s := newShelf()
	var all []string
	for n := range 14 {
		l := make([]api.Digest, n)
		for i := range l {
			l[i] = digest(numbered(i))
		}
		c := plainNode(l...)
		all = append(all, c, c+"a", c[:len(c)-1], c+zeros(31), "L"+c[1:], "F"+c[1:], "D"+c[1:], "X"+c[1:])
	}
	for n := range 270 {
		for _, mark := range "LNFDX\x00" {
			all = append(all, string(mark)+zeros(n), string(mark)+text(n, n))
		}
	}
	for mark := range 256 {
		for _, n := range []int{0, 1, 40, 64, 256} {
			all = append(all, string([]byte{byte(mark)})+text(n, 3))
		}
	}
	for _, c := range append(all, heads()...) {
		agrees(t, s, asks(s.lay(c))...)
	}
}

// children: those are what Children tells.
func children(t *testing.T, name string, s api.Chunks, d api.Digest, want ...api.Digest) {
	t.Helper()
	if got, e := merkle.Children(s, d); !slices.Equal(got, want) || e != api.OK {
		t.Errorf("Children of %s: %x, error %d, want %x", name, got, e, want)
	}
}

// noChildren: none, and that error.
func noChildren(t *testing.T, name string, s api.Chunks, d api.Digest, want api.Errno) {
	t.Helper()
	if got, e := merkle.Children(s, d); got != nil || e != want {
		t.Errorf("Children of %s: %x, error %d, want error %d", name, got, e, want)
	}
}

// TestChildren: of each kind of chunk (P17.5).
func TestChildren(t *testing.T) {
	s := newShelf()
	a, b := digest("a"), digest("b")
	children(t, "a leaf", s, s.lay("La"))
	children(t, "a leaf of 256 bytes", s, s.lay("L"+text(256, 1)))
	children(t, "a leaf like a head", s, s.lay("L"+zeros(40)))
	noChildren(t, "a leaf of none", s, s.lay("L"), api.ErrObject)
	noChildren(t, "a leaf of 257 bytes", s, s.lay("L"+text(257, 1)), api.ErrObject)
	children(t, "a node of 2", s, s.lay(plainNode(a, b)), a, b)
	children(t, "a node that names one twice", s, s.lay(plainNode(b, b, a, b)), b, b, a, b)
	children(t, "a node of zeros", s, s.lay("N"+zeros(64)), none, none)
	children(t, "a node of 8", s, s.lay(plainNode(a, b, a, b, a, b, a, a)), a, b, a, b, a, b, a, a)
	noChildren(t, "a node of 1", s, s.lay(plainNode(a)), api.ErrObject)
	noChildren(t, "a node of 9", s, s.lay(plainNode(a, b, a, b, a, b, a, b, a)), api.ErrObject)
	noChildren(t, "a node of none", s, s.lay("N"), api.ErrObject)
	noChildren(t, "a node with bytes left over", s, s.lay(plainNode(a, b)+"a"), api.ErrObject)
	noChildren(t, "other bytes", s, s.lay("Xa"), api.ErrObject)
	noChildren(t, "no bytes", s, s.lay(""), api.ErrObject)
	noChildren(t, "what is not there", s, a, api.ErrNone)
	children(t, "a file", s, s.lay(plainHead('F', 5, string(a[:]))), a)
	children(t, "an empty file", s, s.put('F', ""))
	children(t, "an empty directory", s, s.put('D', ""))
	noChildren(t, "a directory whose bytes are not there", s, s.lay(plainHead('D', 5, string(a[:]))), api.ErrNone)
	noChildren(t, "a directory of no items", s, s.put('D', "abc"), api.ErrObject)
	node := s.lay(plainNode(a, b))
	noChildren(t, "a directory with a node where its leaf must be", s, s.lay(plainHead('D', 64, string(node[:]))), api.ErrObject)
}

// TestChildrenDir: of a directory the digest in its head, and behind it the objects, in order, not those of links, and those twice that it has twice (P17.5).
func TestChildrenDir(t *testing.T) {
	s := newShelf()
	a, b := digest("a"), digest("b")
	l := []api.Item{fileItem("z", 3, b), linkItem("y", 4), dirItem("x", 5, a), fileItem("w", 6, b), linkItem("v", 7), fileItem("u", 8, digest("c"))}
	d := putsDir(t, s, l...)
	root := api.Digest([]byte(s.plain[d][9:]))
	children(t, "a directory", s, d, root, b, a, b, digest("c"))
	d = putsDir(t, s, linkItem("a", 3), linkItem("b", 4))
	root = api.Digest([]byte(s.plain[d][9:]))
	children(t, "a directory of links", s, d, root)
	d = putsDir(t, s, many(200)...)
	agrees(t, s, asks(d)[2])
	refusedEach(t, "Children of a directory", s, asks(d)[2].real)
	for _, d := range []api.Digest{s.lay("La"), s.lay(plainNode(a, b)), s.put('F', "a")} {
		refusedEach(t, "Children", s, asks(d)[2].real)
	}
}

// TestChildrenReads: of what is no directory its own chunk alone is read (P17.5).
func TestChildrenReads(t *testing.T) {
	s := newShelf()
	puts(t, s, 'F', text(5000, 1))
	for d := range s.plain {
		s.heard()
		merkle.Children(s, d)
		if got := s.heard(); !slices.Equal(got, []call{{'g', d}}) {
			t.Errorf("Children reads %d chunks", len(got))
		}
	}
}

// forest is a directory with others in it, and chunks that are named more than once.
func forest(t *testing.T, s api.Chunks) api.Digest {
	t.Helper()
	a := puts(t, s, 'F', text(600, 1))
	b := puts(t, s, 'F', strings.Repeat(text(256, 2), 9)) // one leaf nine times
	c := puts(t, s, 'F', text(600, 1)[:512]+"b")          // two of a's leaves
	empty := puts(t, s, 'F', "")
	none := putsDir(t, s)
	inner := putsDir(t, s, fileItem("a", 3, a), fileItem("b", 4, b), linkItem("l", 5), fileItem("e", 6, empty))
	outer := putsDir(t, s, dirItem("i", 3, inner), fileItem("c", 4, c), dirItem("n", 5, none), dirItem("j", 6, inner))
	return putsDir(t, s, fileItem("a", 3, a), dirItem("o", 4, outer), dirItem("i", 5, inner), fileItem("c", 6, c), fileItem("f", 7, empty))
}

// TestReach: chunks that are named more than once stand there once, where they are found first (P17.5).
func TestReach(t *testing.T) {
	t.Parallel()
	s := newShelf()
	d := forest(t, s)
	agrees(t, s, asks(d)...)
	got, e := merkle.Reach(s, d)
	if e != api.OK || len(got) != len(s.plain) || got[0] != d {
		t.Errorf("Reach: %d of %d chunks, error %d", len(got), len(s.plain), e)
	}
	for part := range maps.Clone(s.plain) {
		agrees(t, s, asks(part)...)
	}
	refusedEach(t, "Reach", s, asks(d)[3].real)
}

// TestReachOrder: an earlier child with all below it comes ahead of a later one, also where the later one is named below the earlier (P17.5).
func TestReachOrder(t *testing.T) {
	s := newShelf()
	l := []api.Digest{s.lay("L0"), s.lay("L1"), s.lay("L2"), s.lay("L3")}
	low := s.lay(plainNode(l[2], l[1]))
	mid := s.lay(plainNode(l[3], low, l[0]))
	top := s.lay(plainNode(l[1], mid, low, l[2], l[0], l[3]))
	got, e := merkle.Reach(s, top)
	if want := []api.Digest{top, l[1], mid, l[3], low, l[2], l[0]}; !slices.Equal(got, want) || e != api.OK {
		t.Errorf("Reach: %x, error %d, want %x", got, e, want)
	}
	again := s.lay(plainNode(low, low, top, low))
	got, e = merkle.Reach(s, again)
	if want := []api.Digest{again, low, l[2], l[1], top, mid, l[3], l[0]}; !slices.Equal(got, want) || e != api.OK {
		t.Errorf("Reach: %x, error %d, want %x", got, e, want)
	}
	got, e = merkle.Reach(s, l[0])
	if !slices.Equal(got, l[:1]) || e != api.OK {
		t.Errorf("Reach of a leaf: %x, error %d", got, e)
	}
}

// TestReachLost: a store that lacks any one of the chunks, or has another one there, or two of these: the first error, by the order in which they are found (P17.5).
func TestReachLost(t *testing.T) {
	t.Parallel()
	s := newShelf()
	d := forest(t, s)
	for part := range s.plain {
		hurt := on(s.plain)
		delete(hurt.plain, part)
		agrees(t, hurt, asks(d)...)
		if l, e := merkle.Reach(hurt, d); l != nil || e != api.ErrNone {
			t.Errorf("Reach where a chunk is lost: %d, error %d", len(l), e)
		}
		hurt.plain[part] = "X"
		agrees(t, hurt, asks(d)...)
		for other := range s.plain {
			worse := on(hurt.plain)
			delete(worse.plain, other)
			agrees(t, worse, asks(d)[2:]...)
		}
	}
}

// TestReachDeep: directories in directories, many times (P17.5).
func TestReachDeep(t *testing.T) {
	t.Parallel()
	s := newShelf()
	d := putsDir(t, s)
	const deep = 20000
	for i := range deep {
		x := dirItem("d", 3, d)
		x.Inode.Mtime = uint64(i)
		d = putsDir(t, s, x)
	}
	l, e := merkle.Reach(s, d)
	if len(l) != 2*deep+1 || e != api.OK {
		t.Errorf("Reach: %d chunks, error %d", len(l), e)
	}
}
