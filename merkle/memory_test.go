package merkle_test

import (
	"bytes"
	"maps"
	"slices"
	"testing"

	"granary/api"
	"granary/merkle"
)

// careless is a store that keeps what it is handed, and hands out what it keeps.
type careless map[api.Digest][]byte

func (c careless) Put(p []byte) (api.Digest, api.Errno) {
	d := digest(string(p))
	c[d] = p
	return d, api.OK
}

func (c careless) Get(d api.Digest) ([]byte, api.Errno) {
	p, is := c[d]
	if !is {
		return nil, api.ErrNone
	}
	return p, api.OK
}

// holds: each chunk has the bytes that it had.
func (c careless) holds(t *testing.T, name string) {
	t.Helper()
	for d, p := range c {
		if digest(string(p)) != d {
			t.Fatalf("%s: a chunk has other bytes", name)
		}
	}
}

// fill puts objects of all kinds, and tells their digests.
func fill(t *testing.T, s api.Chunks) []api.Digest {
	t.Helper()
	return []api.Digest{forest(t, s), puts(t, s, 'F', text(5000, 1)), puts(t, s, 'F', ""), puts(t, s, 'F', "a"), putsDir(t, s, many(50)...), putsDir(t, s)}
}

// TestHandedIn: nothing that is handed in is changed, its spare room neither (rule 3).
func TestHandedIn(t *testing.T) {
	s := newShelf()
	for _, n := range []int{0, 1, 255, 256, 257, 2048, 2049, 5000} {
		for _, kind := range []byte{'F', 'D', 'X'} {
			p := spare(text(n, 1))
			kept := bytes.Clone(p[:cap(p)])
			merkle.Put(s, kind, p)
			if !bytes.Equal(p[:cap(p)], kept) {
				t.Errorf("Put of %d bytes has changed them", n)
			}
		}
	}
	for _, l := range [][]api.Item{many(0), many(9), {fileItem("..", 3, digest("a")), fileItem("a", 2, none)}, {fileItem("b", 3, digest("a")), fileItem("a", 5, digest("b"))}} {
		room := slices.Repeat([]api.Item{fileItem("z", 9, none)}, 5)
		whole := append(slices.Clone(l), room...)
		merkle.PutDir(s, whole[:len(l)])
		if !slices.Equal(whole, append(slices.Clone(l), room...)) {
			t.Errorf("PutDir has changed items")
		}
	}
}

// TestNotKept: what is handed in may be changed behind, whatever the store keeps (rule 3).
func TestNotKept(t *testing.T) {
	s := careless{}
	for _, n := range []int{1, 256, 300, 2049} {
		p := spare(text(n, 1))
		merkle.Put(s, 'F', p)
		spoil(p, '!')
	}
	l := many(20)
	merkle.PutDir(s, l)
	spoil(l, api.Item{})
	s.holds(t, "changed behind Put")
}

// TestStoreUnchanged: the bytes that a store hands out stay as they are, and whoever writes over an answer, its spare room too, changes neither the store nor another answer (rule 3).
func TestStoreUnchanged(t *testing.T) {
	s := careless{}
	all := fill(t, s)
	p := plain{}
	for d, c := range s {
		s[d] = spare(string(c))
		p[d] = string(c)
	}
	for d := range p {
		for _, x := range asks(d, span{0, 9000}, span{3, 5}) {
			if got := x.real(s); !same(got, x.told(p)) {
				t.Errorf("%s: %s", x.name, brief(got))
			}
		}
		if r, e := merkle.Read(s, d, 0, 9000); e == api.OK {
			spoil(r, '!')
		}
		if r, e := merkle.Read(s, d, 0, 10); e == api.OK {
			spoil(r, '!')
		}
		l, _ := merkle.Children(s, d)
		spoil(l, api.Digest{1})
		l, _ = merkle.Reach(s, d)
		spoil(l, api.Digest{2})
		items, _ := merkle.GetDir(s, d)
		spoil(items, api.Item{Name: "spoilt"})
		s.holds(t, "an answer that is written over")
	}
	found, _ := merkle.Diff(s, all[0], all[4])
	kept := slices.Clone(found)
	again, _ := merkle.Diff(s, all[0], all[4])
	spoil(found, api.Differ{})
	if !slices.Equal(again, kept) {
		t.Errorf("two answers of Diff share paths")
	}
	for d, c := range s {
		if string(c) != p[d] || !bytes.Equal(c[:cap(c)], spare(p[d])[:cap(c)]) && cap(c) == cap(spare(p[d])) {
			t.Errorf("a chunk's spare room is changed")
		}
	}
}

// TestAnswersAreNew: no two answers share anything (rule 3).
func TestAnswersAreNew(t *testing.T) {
	s := newShelf()
	for _, d := range fill(t, s) {
		for _, x := range asks(d, span{0, 9000}) {
			one, two := x.real(s), x.real(s)
			kept := answer{two.bytes, slices.Clone(two.digests), slices.Clone(two.items), nil, two.kind, two.size, two.err}
			spoil(one.digests, api.Digest{1})
			spoil(one.items, api.Item{Name: "spoilt"})
			if !same(two, kept) || !same(x.real(s), kept) {
				t.Errorf("two answers of %s share something", x.name)
			}
		}
	}
}

// TestNothingChanges: what reads puts nothing, and answers the same each time (rule 4).
func TestNothingChanges(t *testing.T) {
	s := newShelf()
	all := fill(t, s)
	kept := maps.Clone(s.plain)
	for _, d := range all {
		for _, x := range append(asks(d, span{0, 9000}, span{700, 9}), diffs(d, all[0]), diffs(all[0], d)) {
			s.heard()
			one := x.real(s)
			calls := s.heard()
			for range 5 {
				if two := x.real(s); !same(one, two) || !slices.Equal(s.heard(), calls) {
					t.Errorf("%s answers otherwise, or by other calls", x.name)
				}
			}
		}
	}
	if !maps.Equal(s.plain, kept) {
		t.Errorf("chunks are changed")
	}
}
