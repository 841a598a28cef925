package arena_test

import (
	"math"
	"testing"

	"granary/api"
	"granary/arena"
)

// refused: no store, and that error.
func refused(t *testing.T, name string, d api.Blocks, first, count int, e api.Errno) {
	t.Helper()
	if s, why := arena.Open(d, first, count); s != nil || why != e {
		t.Errorf("Open, %s: %v, error %d, want error %d", name, s, why, e)
	}
}

// TestBounds: of the blocks that a store lies in (P16.2, P16.3).
func TestBounds(t *testing.T) {
	for _, n := range []int{0, math.MinInt, math.MaxInt} {
		want(t, "Format of no device", arena.Format(nil, n, n), api.ErrNone)
		refused(t, "no device", nil, n, n, api.ErrNone)
	}
	want(t, "Format of no device", arena.Format(nil, 0, 2), api.ErrNone)
	refused(t, "no device", nil, 0, 2, api.ErrNone)
	for _, c := range []struct{ blocks, first, count int }{
		{5, 0, 6}, {5, 1, 5}, {5, 3, 3}, {5, 4, 2}, {5, 5, 2}, {5, 6, 2}, {5, 0, 1}, {5, 0, 0}, {5, 0, -1}, {5, 5, 0}, {5, 6, -1}, {5, 0, math.MinInt},
		{5, -1, 2}, {5, -1, 3}, {5, -2, 4}, {5, math.MinInt, 2}, {5, math.MinInt, math.MaxInt}, {5, math.MinInt, math.MinInt}, {5, -1, math.MinInt},
		{5, math.MaxInt, 2}, {5, 2, math.MaxInt}, {5, math.MaxInt, math.MaxInt}, {5, math.MaxInt - 1, 2}, {5, 0, math.MaxInt}, {5, math.MaxInt, math.MinInt},
		{0, 0, 2}, {1, 0, 2}, {0, 0, 0}, {1, 0, 1}, {2, 1, 1},
	} {
		d := newPlate(c.blocks)
		want(t, "Format", arena.Format(d, c.first, c.count), api.ErrArg)
		refused(t, "bounds", d, c.first, c.count, api.ErrArg)
		hears(t, "bounds", d)
	}
	for _, c := range []struct{ blocks, first, count int }{{2, 0, 2}, {5, 0, 5}, {5, 0, 2}, {5, 3, 2}, {5, 1, 3}} {
		d := newPlate(c.blocks)
		want(t, "Format", arena.Format(d, c.first, c.count), api.OK)
		s := opened(t, d, c.first, c.count)
		if s.Blocks() != c.count {
			t.Errorf("Blocks: %d, want %d", s.Blocks(), c.count)
		}
		tells(t, s, 0, 0, 0, c.count)
	}
}

// odd is a device that tells another length.
type odd struct {
	*plate
	length int
}

func (d odd) Len() int { return d.length }

// TestOddLengths: a device whose length is no length has no blocks (P16.2, P16.3).
func TestOddLengths(t *testing.T) {
	for _, n := range []int{-1, math.MinInt} {
		for _, first := range []int{0, 1, math.MaxInt} {
			want(t, "Format", arena.Format(odd{newPlate(9), n}, first, 2), api.ErrArg)
			refused(t, "odd", odd{newPlate(9), n}, first, 2, api.ErrArg)
		}
	}
}

// TestFormat: zeros to all blocks, from the first on, and to no other, and a flush; whatever was there (P16.2).
func TestFormat(t *testing.T) {
	for fails := range 6 {
		d := newPlate(6)
		for b := range 6 {
			d.lay(b, []byte(text(384, b)))
		}
		d.breakAt(fails, false, false)
		e := arena.Format(d, 1, 4)
		l := []call{wipe(1), wipe(2), wipe(3), wipe(4), flush()}
		if fails > 0 {
			want(t, "Format", e, errBroken)
			l = l[:fails]
		} else {
			want(t, "Format", e, api.OK)
		}
		hears(t, "Format", d, l...)
		if string(d.now(0)) != text(384, 0) || string(d.now(5)) != text(384, 5) {
			t.Errorf("Format has written where the store does not lie")
		}
	}
	for _, e := range []api.Errno{api.ErrArg, api.ErrNone, api.ErrArena, -1, math.MaxInt} {
		d := newPlate(3)
		d.refuseAt(3, e)
		want(t, "Format", arena.Format(d, 0, 3), e)
	}
}

// TestOpenReads: all blocks once, from the first on; nothing is written (P16.3).
func TestOpenReads(t *testing.T) {
	d := newPlate(6)
	d.lay(0, []byte(text(384, 1)))
	d.lay(2, laid(4, "a"))
	d.lay(5, []byte(text(384, 1)))
	opened(t, d, 1, 4)
	hears(t, "Open", d, read(1), read(2), read(3), read(4))
	for fails := 1; fails <= 4; fails++ {
		for _, e := range []api.Errno{errBroken, api.ErrArena, api.ErrNone, api.ErrArg, api.ErrClash, -1} {
			d.refuseAt(fails, e)
			refused(t, "a read is refused", d, 1, 4, e)
			hears(t, "Open", d, []call{read(1), read(2), read(3), read(4)}[:fails]...)
		}
	}
}

// TestStrangeBlocks: blocks that are neither empty nor an arena's; the first thing that is wrong is told (P16.3).
func TestStrangeBlocks(t *testing.T) {
	one := []byte(zeros)
	one[383] = 1
	for _, p := range [][]byte{
		[]byte(text(384, 1)), one, laid(0, "a"), laid(top+1, "a"), laid(5), laid(5, text(301, 1)), laid(5, "a")[:383], laid(5, "a", text(368, 1)),
		append(laid(5, "a"), 0), nil, {}, []byte(zeros)[:383], []byte(zeros + "\x00"), []byte("AREN"),
	} {
		for b := range 4 {
			d := newPlate(4)
			d.lay(0, laid(1, "x"))
			d.lay(b, p)
			refused(t, "a strange block "+brief(string(p)), d, 0, 4, api.ErrArena)
			if l := d.heard(); len(l) != b+1 {
				t.Errorf("the device has heard %s", told(l))
			}
			for fails := 1; fails <= b+1; fails++ {
				d.breakAt(fails, false, false)
				refused(t, "a strange block, and one that is refused", d, 0, 4, errBroken)
			}
			d.breakAt(b+2, false, false)
			refused(t, "a strange block ahead of one that is refused", d, 0, 4, api.ErrArena)
		}
	}
}

// TestOpenTells: what is there behind Open; no block is open, and what is empty is free (P16.3, P16.5, P16.8).
func TestOpenTells(t *testing.T) {
	d := newPlate(5)
	d.lay(1, laid(7, "ab", "c"))
	d.lay(3, laid(3, text(300, 1)))
	s := opened(t, d, 0, 5)
	tells(t, s, 3, 303, 0, 3)
	lies(t, s, "ab", 1)
	lies(t, s, "c", 1)
	lies(t, s, text(300, 1), 3)
	missing(t, s, "d")
	d.heard()
	puts(t, s, "d") // not behind the others, though there is room
	lies(t, s, "d", 0)
	hears(t, "Put", d)
	tells(t, s, 4, 304, 0, 2)
	syncs(t, s)
	hears(t, "Sync", d, write(0, laid(8, "d")), flush())
}

// TestTwice: of records with the same bytes, in one block or in several, the first is there, the others are dead (P16.3).
func TestTwice(t *testing.T) {
	d := newPlate(5)
	d.lay(0, laid(9, "bb", "a", "bb", "bb"))
	d.lay(2, laid(1, "bb", "a", text(100, 1)))
	d.lay(3, laid(4, "a", "bb"))
	d.lay(4, laid(5, text(100, 1), "c", text(100, 1)))
	s := opened(t, d, 0, 5)
	tells(t, s, 4, 2+1+100+1, 4+3+3+200, 1)
	lies(t, s, "bb", 0)
	lies(t, s, "a", 0)
	lies(t, s, text(100, 1), 2)
	lies(t, s, "c", 4)
	drops(t, s, "bb") // the others of it stay dead
	missing(t, s, "bb")
	tells(t, s, 3, 102, 4+3+3+200+2, 1)
	d.heard()
	syncs(t, s) // the block 3 has no live chunk
	hears(t, "Sync", d, flush(), wipe(3), flush())
	tells(t, s, 3, 102, 6+3+200, 2)
}

// TestNextStamp: it is 1 above the greatest, wherever that is; above 2^62 there is none (P16.3, P16.4).
func TestNextStamp(t *testing.T) {
	for _, c := range []struct {
		stamps []uint64
		next   uint64
	}{
		{nil, 1}, {[]uint64{1}, 2}, {[]uint64{9, 3}, 10}, {[]uint64{3, 9}, 10}, {[]uint64{3, 9, 4}, 10}, {[]uint64{9, 9}, 10}, {[]uint64{top - 1}, top}, {[]uint64{top - 2, 5}, top - 1},
	} {
		d := newPlate(5)
		for i, n := range c.stamps {
			d.lay(i, laid(n, text(10, i)))
		}
		s := opened(t, d, 0, 5)
		d.heard()
		puts(t, s, "a")
		syncs(t, s)
		hears(t, "Sync", d, write(len(c.stamps), laid(c.next, "a")), flush())
	}
	d := newPlate(5)
	d.lay(0, laid(top, "x", "y"))
	s := opened(t, d, 0, 5)
	refuses(t, s, "a", api.ErrFull)
	puts(t, s, "x") // it is there
	drops(t, s, "x")
	compacts(t, s, false, api.ErrFull)
	refuses(t, s, "x", api.ErrFull)
	drops(t, s, "y")
	syncs(t, s)
	tells(t, s, 0, 0, 0, 5)
	refuses(t, s, "x", api.ErrFull) // the store does not begin anew
	s = opened(t, d, 0, 5)
	puts(t, s, "x")
}

// TestOpenAnew: what was written is found again; what was not is gone, and its block is free (P16.3).
func TestOpenAnew(t *testing.T) {
	d, s := fresh(t, 4)
	puts(t, s, "a", text(300, 1), text(200, 2))
	s = opened(t, d, 0, 4)
	lies(t, s, "a", 0)
	lies(t, s, text(300, 1), 0)
	missing(t, s, text(200, 2))
	tells(t, s, 2, 301, 0, 3)
	drops(t, s, "a") // what was dropped and not wiped is there again
	syncs(t, s)
	s = opened(t, d, 0, 4)
	lies(t, s, "a", 0)
	tells(t, s, 2, 301, 0, 3)
}

// TestClashAtOpen: two records with the same digest that have other bytes, in one block or in two (P16.3).
func TestClashAtOpen(t *testing.T) {
	a, b := digest("a"), digest("b")
	one, other, long := []byte("one"), []byte("oth"), []byte("onee")
	for _, l := range [][][]arena.Record{
		{{{a, one}, {a, other}}},
		{{{a, one}}, {{a, other}}},
		{{{a, one}}, {{a, long}}},
		{{{a, long}}, {}, {{b, one}, {a, one}}},
		{{{a, one}, {a, one}}, {{a, one}}, {{a, other}}},
		{{}, {{b, one}, {a, other}}, {{b, other}}},
	} {
		if s, e := arena.Find(l); s != nil || e != api.ErrClash {
			t.Errorf("%v: %v, error %d", l, s, e)
		}
	}
	for _, l := range [][][]arena.Record{
		nil, {{{a, one}, {a, one}}}, {{{a, one}}, {{a, one}}}, {{{a, one}}, {{b, one}}}, {{{a, one}, {b, other}}, {{b, other}, {a, one}}},
	} {
		if s, e := arena.Find(l); s == nil || e != api.OK {
			t.Errorf("%v: %v, error %d", l, s, e)
		}
	}
}
