package arena_test

import (
	"math"
	"testing"

	"granary/api"
	"granary/arena"
)

// TestExample is the chapter's first one.
func TestExample(t *testing.T) {
	d, s := fresh(t, 4)
	puts(t, s, "a", "b")
	lies(t, s, "a", 0)
	lies(t, s, "b", 0)
	puts(t, s, text(300, 1))
	lies(t, s, text(300, 1), 0)
	tells(t, s, 3, 302, 0, 3)
	puts(t, s, text(100, 2))
	lies(t, s, text(100, 2), 1)
	tells(t, s, 4, 402, 0, 2)
	syncs(t, s)
	drops(t, s, "a")
	tells(t, s, 3, 401, 1, 2)
	compacts(t, s, true, api.OK)
	lies(t, s, "b", 1)
	lies(t, s, text(300, 1), 2)
	tells(t, s, 3, 401, 302, 1)
	syncs(t, s)
	tells(t, s, 3, 401, 0, 2)
	if string(d.now(0)) != zeros {
		t.Errorf("the block 0 is not empty")
	}
	refuses(t, s, "", api.ErrArg)
	missing(t, s, "a")
}

// stopped is a store that has met an error of its device: block 0 has a and b, of which b is dead, block 1 is open and has c.
func stopped(t *testing.T) (*plate, *arena.Store) {
	t.Helper()
	d := newPlate(4)
	d.lay(0, laid(1, "a", "b"))
	s := opened(t, d, 0, 4)
	drops(t, s, "b")
	puts(t, s, text(300, 1))
	d.breakAt(1, false, false)
	refuses(t, s, text(100, 2), errBroken)
	d.heard()
	return d, s
}

// TestErrorsOfPut: each alone, and every two that can come together, in their order (P16.4).
func TestErrorsOfPut(t *testing.T) {
	for _, c := range []string{"", text(301, 1), text(5000, 1), text(100, 2), "a", "b", "x"} {
		_, s := stopped(t)
		refuses(t, s, c, api.ErrStop)
		s.Forge(digest("a"), []byte("z"))
		refuses(t, s, "a", api.ErrStop)
	}
	d := newPlate(2)
	d.lay(0, laid(1, text(100, 1)))
	d.lay(1, laid(2, text(300, 2)))
	s := opened(t, d, 0, 2)
	d.heard()
	refuses(t, s, "x", api.ErrFull)
	refuses(t, s, "", api.ErrArg)
	if got, e := s.Put(nil); got != (api.Digest{}) || e != api.ErrArg {
		t.Errorf("Put of nil: error %d", e)
	}
	refuses(t, s, text(301, 1), api.ErrLong)
	refuses(t, s, text(302, 1), api.ErrLong)
	refuses(t, s, text(1<<20, 1), api.ErrLong)
	puts(t, s, text(100, 1), text(300, 2))
	s.Forge(digest(text(100, 1)), []byte("x"))
	refuses(t, s, text(100, 1), api.ErrClash) // ahead of ErrFull
	hears(t, "Put", d)
	tells(t, s, 2, 400, 0, 0)
	d, s = fresh(t, 3)
	d.breakAt(1, true, false)
	puts(t, s, text(300, 1)) // the open block is in memory
	refuses(t, s, "", api.ErrArg)
	refuses(t, s, text(301, 1), api.ErrLong)
	refuses(t, s, text(100, 1), errBroken)
	refuses(t, s, text(100, 1), api.ErrStop)
}

// TestClash: other bytes with the same digest are refused, in the open block and in a full one, and nothing has changed (P16.4, rule 6).
func TestClash(t *testing.T) {
	d, s := fresh(t, 3)
	puts(t, s, text(300, 1), text(200, 2))
	for _, c := range []string{text(300, 1), text(200, 2)} {
		for _, other := range []string{"x", c + "x", c[1:], c[:len(c)-1] + "!", "!" + c[1:]} {
			s.Forge(digest(c), []byte(other))
			d.heard()
			refuses(t, s, c, api.ErrClash)
			hears(t, "Put", d)
			if !s.Has(digest(c)) {
				t.Errorf("the chunk is gone")
			}
		}
		s.Forge(digest(c), []byte(c))
	}
	tells(t, s, 2, 500, 0, 1)
	puts(t, s, text(300, 1), text(200, 2), "a") // the store goes on
	lies(t, s, "a", 1)
}

// TestPutLengths: chunks of each length (P16.4).
func TestPutLengths(t *testing.T) {
	d, s := fresh(t, 400)
	live := 0
	for n := 1; n <= 300; n++ {
		puts(t, s, text(n, n))
		live += n
	}
	syncs(t, s)
	tells(t, s, 300, live, 0, s.Free())
	again := opened(t, d, 0, 400)
	for n := 1; n <= 300; n++ {
		b, _ := s.Where(digest(text(n, n)))
		lies(t, s, text(n, n), b)
		lies(t, again, text(n, n), b)
	}
	missing(t, s, text(301, 301))
}

// TestJustRoom: an open block that has just room, and one byte too few (P16.4).
func TestJustRoom(t *testing.T) {
	for n := 1; n <= 369; n++ {
		rest := 372 - 2 - n - 2
		if n > 300 || rest > 300 {
			continue
		}
		d, s := fresh(t, 3)
		puts(t, s, text(n, 1), text(rest, 2))
		lies(t, s, text(rest, 2), 0)
		hears(t, "Put", d)
		if rest == 300 {
			continue
		}
		d, s = fresh(t, 3)
		puts(t, s, text(n, 1), text(rest+1, 2))
		lies(t, s, text(rest+1, 2), 1)
		d.heard()
		syncs(t, s)
		hears(t, "Sync", d, write(1, laid(2, text(rest+1, 2))), flush())
	}
	d, s := fresh(t, 3) // many small ones
	for n := range 125 {
		puts(t, s, string([]byte{byte(n)}))
		if b, _ := s.Where(digest(string([]byte{byte(n)}))); b != n/124 {
			t.Errorf("the chunk %d lies in %d", n, b)
		}
	}
	if l := d.heard(); len(l) != 1 {
		t.Errorf("the device has heard %s", told(l))
	}
}

// TestPutAgain: what is there is not laid again; what was dropped is, in the open block and behind a full one (P16.4, P16.10).
func TestPutAgain(t *testing.T) {
	d, s := fresh(t, 4)
	puts(t, s, "a", "a", "bb", "a")
	tells(t, s, 2, 3, 0, 3)
	drops(t, s, "a")
	tells(t, s, 1, 2, 1, 3)
	puts(t, s, "a", "a")
	lies(t, s, "a", 0)
	tells(t, s, 2, 3, 1, 3)
	syncs(t, s)
	hears(t, "Sync", d, write(0, laid(1, "a", "bb", "a")), flush())
	puts(t, s, text(300, 1), text(300, 2))
	hears(t, "Put", d, write(0, laid(1, "a", "bb", "a", text(300, 1))))
	drops(t, s, "bb")
	puts(t, s, "a", "bb", text(300, 1))
	lies(t, s, "a", 0)
	lies(t, s, "bb", 1)
	lies(t, s, text(300, 1), 0)
	tells(t, s, 4, 603, 1+2, 2)
}

// TestOpenIsWritten: where it has no room the open block is written, also where it was before, and has no live chunk; and is full (P16.4).
func TestOpenIsWritten(t *testing.T) {
	d, s := fresh(t, 4)
	puts(t, s, text(300, 1))
	syncs(t, s)
	d.heard()
	puts(t, s, text(300, 2))
	hears(t, "Put", d, write(0, laid(1, text(300, 1))))
	drops(t, s, text(300, 2))
	puts(t, s, text(300, 3))
	hears(t, "Put", d, write(1, laid(2, text(300, 2))))
	tells(t, s, 2, 600, 300, 1)
	puts(t, s, "a")
	lies(t, s, "a", 2)
	puts(t, s, text(300, 4))
	lies(t, s, text(300, 4), 3)
	tells(t, s, 4, 901, 300, 0)
}

// TestFirstFree: the first free block by its number is taken, and what is free at the last Sync alone (P16.4, P16.6).
func TestFirstFree(t *testing.T) {
	d, s := fresh(t, 5)
	for i := range 5 {
		puts(t, s, text(300, i))
	}
	tells(t, s, 5, 1500, 0, 0)
	drops(t, s, text(300, 3), text(300, 1))
	refuses(t, s, text(300, 9), api.ErrFull)
	puts(t, s, text(60, 9)) // has room in the open one
	lies(t, s, text(60, 9), 4)
	tells(t, s, 4, 960, 600, 0)
	d.heard()
	syncs(t, s)
	hears(t, "Sync", d, write(4, laid(5, text(300, 4), text(60, 9))), flush(), wipe(1), wipe(3), flush())
	tells(t, s, 4, 960, 0, 2)
	puts(t, s, text(300, 11))
	lies(t, s, text(300, 11), 1)
	drops(t, s, text(300, 0))
	puts(t, s, text(300, 12))
	lies(t, s, text(300, 12), 3)
	refuses(t, s, text(300, 13), api.ErrFull)
	d.heard()
	syncs(t, s)
	hears(t, "Sync", d, write(3, laid(7, text(300, 12))), flush(), wipe(0), flush())
	puts(t, s, text(300, 13))
	lies(t, s, text(300, 13), 0)
}

// TestFull: without a free block, or a stamp, nothing is written, and nothing has changed; the open block stays open (P16.4).
func TestFull(t *testing.T) {
	for _, stamp := range []uint64{0, top - 1} {
		d := newPlate(3)
		if stamp == 0 {
			d.lay(0, laid(1, "x"))
			d.lay(1, laid(2, "y"))
		} else {
			d.lay(0, laid(stamp, "x"))
			d.lay(1, laid(4, "y"))
			d.blocks = append(d.blocks, []string{zeros})
		}
		s := opened(t, d, 0, d.Len())
		puts(t, s, text(200, 1))
		d.heard()
		free := s.Free()
		for _, c := range []string{text(300, 2), text(169, 2)} {
			refuses(t, s, c, api.ErrFull)
			missing(t, s, c)
		}
		hears(t, "Put", d)
		tells(t, s, 3, 202, 0, free)
		puts(t, s, text(168, 2))
		lies(t, s, text(168, 2), 2)
		refuses(t, s, "a", api.ErrFull)
		d.breakAt(1, true, false)
		refuses(t, s, "a", api.ErrFull) // ahead of the device's error
		d.mend()
		syncs(t, s) // and the store is not stopped
		puts(t, s, "x", "y")
	}
}

// TestWriteRefused: the store is stopped then; what it has it tells on (P16.4, P16.8).
func TestWriteRefused(t *testing.T) {
	for _, e := range []api.Errno{errBroken, api.ErrFull, api.ErrStop, api.ErrClash, -1} {
		d, s := fresh(t, 4)
		puts(t, s, text(300, 1), text(300, 2), "a")
		drops(t, s, "a")
		d.refuseAt(1, e)
		refuses(t, s, text(300, 3), e)
		d.heard()
		for range 2 {
			refuses(t, s, "b", api.ErrStop)
			refuses(t, s, text(300, 1), api.ErrStop)
			want(t, "Drop", s.Drop(digest(text(300, 1))), api.ErrStop)
			want(t, "Drop", s.Drop(digest("a")), api.ErrStop)
			want(t, "Sync", s.Sync(), api.ErrStop)
			compacts(t, s, false, api.ErrStop)
		}
		hears(t, "a stopped store", d)
		tells(t, s, 2, 600, 1, 2)
		lies(t, s, text(300, 1), 0)
		lies(t, s, text(300, 2), 1)
		for _, c := range []string{"a", "b", text(300, 3)} {
			if p, why := s.Get(digest(c)); p != nil || why != api.ErrNone {
				t.Errorf("Get of %s: error %d", brief(c), why)
			}
		}
		if s.Blocks() != 4 || len(s.List()) != 2 {
			t.Errorf("Blocks %d, List %d", s.Blocks(), len(s.List()))
		}
	}
}

// TestDrop: of what is in the open block, in a full one, dropped, and never there (P16.5).
func TestDrop(t *testing.T) {
	d, s := fresh(t, 4)
	puts(t, s, "a", text(300, 1), text(200, 2), "b")
	d.heard()
	drops(t, s, "a", "b")
	missing(t, s, "a")
	missing(t, s, "b")
	missing(t, s, "c")
	want(t, "Drop of the zero digest", s.Drop(api.Digest{}), api.ErrNone)
	tells(t, s, 2, 500, 2, 2)
	drops(t, s, text(300, 1), text(200, 2))
	tells(t, s, 0, 0, 502, 2)
	hears(t, "Drop", d)
}

// TestNothingToSync: the device is flushed all the same (P16.6).
func TestNothingToSync(t *testing.T) {
	d, s := fresh(t, 3)
	syncs(t, s)
	hears(t, "Sync of nothing", d, flush())
	puts(t, s, "a", "b")
	drops(t, s, "a")
	syncs(t, s)
	hears(t, "Sync", d, write(0, laid(1, "a", "b")), flush())
	for range 2 {
		syncs(t, s)
		hears(t, "Sync again", d, flush())
	}
	puts(t, s, "b")
	syncs(t, s)
	hears(t, "behind Put of what is there", d, flush())
	refuses(t, s, "", api.ErrArg)
	syncs(t, s)
	hears(t, "behind an error", d, flush())
	puts(t, s, "a")
	syncs(t, s)
	hears(t, "it stays open", d, write(0, laid(1, "a", "b", "a")), flush())
	tells(t, s, 2, 2, 1, 2)
}

// TestOpenWithoutLive: an open block without live chunks is written, if something was laid into it, and then wiped; and is not open (P16.6).
func TestOpenWithoutLive(t *testing.T) {
	d, s := fresh(t, 3)
	puts(t, s, "a")
	drops(t, s, "a")
	tells(t, s, 0, 0, 1, 2)
	syncs(t, s)
	hears(t, "Sync", d, write(0, laid(1, "a")), flush(), wipe(0), flush())
	tells(t, s, 0, 0, 0, 3)
	puts(t, s, "b", "c")
	lies(t, s, "b", 0)
	syncs(t, s)
	hears(t, "Sync", d, write(0, laid(2, "b", "c")), flush())
	drops(t, s, "b", "c")
	syncs(t, s)
	hears(t, "Sync", d, flush(), wipe(0), flush())
	tells(t, s, 0, 0, 0, 3)
	puts(t, s, "b")
	lies(t, s, "b", 0)
	syncs(t, s)
	hears(t, "Sync", d, write(0, laid(3, "b")), flush())
}

// TestManyToWipe: several blocks without live chunks, the open one in their midst (P16.6).
func TestManyToWipe(t *testing.T) {
	var l []call
	last := []byte(nil)
	for fails := range 9 {
		d, s := fresh(t, 6)
		for i := range 6 {
			puts(t, s, text(300, i))
		}
		drops(t, s, text(300, 1))
		syncs(t, s)
		puts(t, s, text(300, 7)) // in the block 1
		lies(t, s, text(300, 7), 1)
		drops(t, s, text(300, 7), text(300, 0), text(300, 2), text(300, 5))
		last = laid(7, text(300, 7))
		l = []call{write(1, last), flush(), wipe(0), wipe(1), wipe(2), wipe(5), flush()}
		d.heard()
		d.breakAt(fails, false, false)
		e := s.Sync()
		if fails == 0 || fails > len(l) {
			want(t, "Sync", e, api.OK)
			hears(t, "Sync", d, l...)
			tells(t, s, 2, 600, 0, 4)
			continue
		}
		want(t, "Sync", e, errBroken)
		hears(t, "Sync", d, l[:fails]...)
		tells(t, s, 2, 600, 1200, 0) // nothing has changed
		want(t, "Sync", s.Sync(), api.ErrStop)
		refuses(t, s, "a", api.ErrStop)
		compacts(t, s, false, api.ErrStop)
		want(t, "Drop", s.Drop(digest(text(300, 3))), api.ErrStop)
		lies(t, s, text(300, 3), 3)
		lies(t, s, text(300, 4), 4)
	}
}

// TestErrorsOfSync: whatever the error, it is told, and the store is stopped (P16.6).
func TestErrorsOfSync(t *testing.T) {
	for _, e := range []api.Errno{api.ErrFull, api.ErrStop, api.ErrArena, api.ErrNone, -7, math.MaxInt} {
		d, s := fresh(t, 3)
		d.refuseAt(1, e)
		want(t, "Sync", s.Sync(), e)
		want(t, "Sync", s.Sync(), api.ErrStop)
	}
}

// TestNil: a nil store (P16.8).
func TestNil(t *testing.T) {
	var s *arena.Store
	for _, c := range []string{"", "a", text(301, 1)} {
		refuses(t, s, c, api.ErrNone)
		missing(t, s, c)
		want(t, "Drop", s.Drop(digest(c)), api.ErrNone)
	}
	want(t, "Sync", s.Sync(), api.ErrNone)
	compacts(t, s, false, api.ErrNone)
	tells(t, s, 0, 0, 0, 0)
	if s.Blocks() != 0 || s.List() != nil {
		t.Errorf("Blocks %d, List %v", s.Blocks(), s.List())
	}
}
