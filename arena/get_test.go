package arena_test

import (
	"bytes"
	"slices"
	"testing"

	"granary/api"
)

// noGet: none, and that error.
func noGet(t *testing.T, name string, got []byte, e, why api.Errno) {
	t.Helper()
	if got != nil || e != why {
		t.Errorf("%s: Get: %s, error %d, want error %d", name, brief(string(got)), e, why)
	}
}

// TestGetReads: what is in the open block is at hand, of the others their block is read; Has and Where read nothing (P16.5).
func TestGetReads(t *testing.T) {
	d := newPlate(6)
	d.lay(3, laid(1, "x", "y"))
	s := opened(t, d, 2, 4)
	puts(t, s, "a", text(300, 1), "b", text(300, 2))
	d.heard()
	for _, c := range []struct {
		text  string
		block int
		calls []call
	}{
		{"a", 0, []call{read(2)}}, {text(300, 1), 0, []call{read(2)}}, {"b", 0, []call{read(2)}}, {"x", 1, []call{read(3)}}, {"y", 1, []call{read(3)}}, {text(300, 2), 2, nil},
	} {
		lies(t, s, c.text, c.block)
		hears(t, "Get of "+brief(c.text), d, c.calls...)
	}
	missing(t, s, "c")
	s.List()
	hears(t, "what is not there", d)
	syncs(t, s)
	d.heard()
	lies(t, s, text(300, 2), 2) // it is open still
	hears(t, "Get behind Sync", d)
}

// TestReadRefused: the device's error; the store goes on (P16.5).
func TestReadRefused(t *testing.T) {
	for _, e := range []api.Errno{errBroken, api.ErrNone, api.ErrArena, api.ErrStop, -3} {
		d, s := fresh(t, 4)
		puts(t, s, text(300, 1), text(300, 2))
		d.refuseAt(1, e)
		p, why := s.Get(digest(text(300, 1)))
		noGet(t, "refused", p, why, e)
		lies(t, s, text(300, 1), 0)
		d.breakAt(1, true, false)
		for range 2 {
			p, why := s.Get(digest(text(300, 1)))
			noGet(t, "refused", p, why, errBroken)
			p, why = s.Get(digest("a"))
			noGet(t, "not there", p, why, api.ErrNone)
		}
		lies(t, s, text(300, 2), 1) // the open one is not read
		puts(t, s, text(300, 1), text(20, 3))
		d.mend()
		syncs(t, s)
		lies(t, s, text(300, 1), 0)
	}
}

// TestChangedByOthers: a block that has not the chunk any more (P16.5).
func TestChangedByOthers(t *testing.T) {
	c := text(100, 1)
	for _, p := range [][]byte{
		[]byte(zeros), nil, []byte(text(384, 1)), laid(0, c), laid(top+1, c), laid(1, "b"), laid(1, c+"x"), laid(1, c[1:]), laid(1, "x"+c[1:]), laid(1, c[:99]+"!"), laid(1, c)[:383], append(laid(1, c), 0),
		laid(1, c[:50], c[50:]), laid(1, c[:99], "b", c[99:]),
	} {
		d := newPlate(3)
		d.lay(0, laid(1, c, "b"))
		s := opened(t, d, 0, 3)
		d.lay(0, p)
		got, e := s.Get(digest(c))
		noGet(t, brief(string(p)), got, e, api.ErrArena)
		if b, is := s.Where(digest(c)); b != 0 || !is || !s.Has(digest(c)) {
			t.Errorf("it is not there any more")
		}
		puts(t, s, c, "d") // the store goes on
		drops(t, s, c)
		missing(t, s, c)
	}
	for _, p := range [][]byte{laid(1, c, "b"), laid(2, c), laid(1, "b", c), laid(7, "z", c, c)} { // it is there still
		d := newPlate(3)
		d.lay(0, laid(1, c, "b"))
		s := opened(t, d, 0, 3)
		d.lay(0, p)
		lies(t, s, c, 0)
	}
	d, s := fresh(t, 3) // the open block is in memory
	puts(t, s, c)
	syncs(t, s)
	d.lay(0, []byte(text(384, 1)))
	lies(t, s, c, 0)
}

// TestList: all that are there, rising, each once (P16.8).
func TestList(t *testing.T) {
	_, s := fresh(t, 60)
	if len(s.List()) != 0 {
		t.Errorf("List of nothing: %x", s.List())
	}
	there := map[string]bool{}
	dice := dice(6)
	for range 2000 {
		c := text(1+dice.below(40), dice.below(300))
		if dice.below(2) == 0 {
			puts(t, s, c)
			there[c] = true
		} else if there[c] {
			drops(t, s, c)
			delete(there, c)
		}
		if dice.below(10) == 0 {
			syncs(t, s)
			for {
				if ok, e := s.Compact(); e != api.OK || !ok {
					break
				}
			}
			syncs(t, s)
		}
		var l []api.Digest
		for c := range there {
			l = append(l, digest(c))
		}
		slices.SortFunc(l, func(a, b api.Digest) int { return bytes.Compare(a[:], b[:]) })
		if got := s.List(); !slices.Equal(got, l) || s.Len() != len(l) {
			t.Fatalf("List: %d, Len %d, want %d", len(got), s.Len(), len(l))
		}
	}
}
