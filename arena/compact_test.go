package arena_test

import (
	"math"
	"testing"

	"granary/api"
	"granary/arena"
)

// stored is a store on a plate whose blocks have these chunks, in the order of their stamps; behind them come free ones.
func stored(t *testing.T, free int, blocks ...[]string) (*plate, *arena.Store) {
	t.Helper()
	d := newPlate(len(blocks) + free)
	for b, l := range blocks {
		d.lay(b, laid(uint64(b+1), l...))
	}
	s := opened(t, d, 0, d.Len())
	d.heard()
	return d, s
}

// TestNothingToCompact: no full block with dead records, or none with live ones besides (P16.7).
func TestNothingToCompact(t *testing.T) {
	d, s := fresh(t, 3)
	compacts(t, s, false, api.OK)
	puts(t, s, "a", "b")
	drops(t, s, "a") // the open block is not compacted
	compacts(t, s, false, api.OK)
	drops(t, s, "b")
	compacts(t, s, false, api.OK)
	d, s = stored(t, 2, []string{"a", "b"}, []string{"c"})
	compacts(t, s, false, api.OK)
	drops(t, s, "a", "b") // nothing of it is live
	compacts(t, s, false, api.OK)
	hears(t, "Compact", d)
	tells(t, s, 1, 1, 2, 2)
	d.breakAt(1, true, false)
	compacts(t, s, false, api.OK)
}

// TestSparsest: of several the one with the fewest live bytes, of those alike the first (P16.7).
func TestSparsest(t *testing.T) {
	for _, c := range []struct {
		live []int
		best int
	}{
		{[]int{100, 50, 70}, 1}, {[]int{50, 100, 70}, 0}, {[]int{70, 100, 50}, 2}, {[]int{50, 50, 50}, 0}, {[]int{70, 50, 50}, 1}, {[]int{50, 70, 50}, 0},
	} {
		var blocks [][]string
		for i, n := range c.live {
			blocks = append(blocks, []string{text(90, 100+i), text(n, i)})
		}
		_, s := stored(t, 3, blocks...)
		for i := range c.live {
			drops(t, s, text(90, 100+i))
		}
		compacts(t, s, true, api.OK)
		for i, n := range c.live {
			if i == c.best {
				lies(t, s, text(n, i), 3)
			} else {
				lies(t, s, text(n, i), i)
			}
		}
	}
	_, s := stored(t, 2, []string{"dead", text(20, 1), text(20, 2), text(20, 3)}, []string{"gone", text(61, 4)}) // bytes, not records, nor their lengths' bytes
	drops(t, s, "dead", "gone")
	compacts(t, s, true, api.OK)
	lies(t, s, text(20, 3), 2)
	lies(t, s, text(61, 4), 1)
	_, s = stored(t, 2, []string{"d", text(61, 4)}, []string{text(200, 9), text(20, 1), text(20, 2), text(20, 3)}, []string{text(2, 5)}) // how much is dead does not count; and one without dead ones is left
	drops(t, s, "d", text(200, 9))
	compacts(t, s, true, api.OK)
	lies(t, s, text(20, 3), 3)
	lies(t, s, text(61, 4), 0)
	lies(t, s, text(2, 5), 2)
}

// TestFromItsFront: the live chunks are laid in their order, behind those of the open block; the old records are dead then (P16.7).
func TestFromItsFront(t *testing.T) {
	d, s := stored(t, 2, []string{"a", text(50, 1), "b", "c", text(50, 2), "d"})
	drops(t, s, "b", "a")
	puts(t, s, "x")
	drops(t, s, "x")
	tells(t, s, 4, 102, 3, 1)
	compacts(t, s, true, api.OK)
	hears(t, "Compact", d)
	tells(t, s, 4, 102, 3+102, 1)
	for _, c := range []string{text(50, 1), "c", text(50, 2), "d"} {
		lies(t, s, c, 1)
	}
	hears(t, "Get of what is open", d)
	compacts(t, s, false, api.OK)
	syncs(t, s)
	hears(t, "Sync", d, write(1, laid(2, "x", text(50, 1), "c", text(50, 2), "d")), flush(), wipe(0), flush())
	tells(t, s, 4, 102, 1, 2)
}

// TestIntoTwo: what has no room in the open block goes into the next, which is written first with what has (P16.7).
func TestIntoTwo(t *testing.T) {
	d, s := stored(t, 3, []string{"a", "b", text(300, 1), "c"})
	drops(t, s, "a")
	puts(t, s, text(100, 2))
	compacts(t, s, true, api.OK)
	hears(t, "Compact", d, write(1, laid(2, text(100, 2), "b")))
	lies(t, s, "b", 1)
	lies(t, s, text(300, 1), 2)
	lies(t, s, "c", 2) // the block 1 is full, though it has room for it
	tells(t, s, 4, 402, 303, 1)
	d.heard()
	syncs(t, s)
	hears(t, "Sync", d, write(2, laid(3, text(300, 1), "c")), flush(), wipe(0), flush())
	d, s = stored(t, 3, []string{"a", text(300, 1), "c"}) // the first has no room there
	drops(t, s, "a")
	puts(t, s, text(100, 2))
	syncs(t, s)
	d.heard()
	compacts(t, s, true, api.OK)
	hears(t, "Compact", d, write(1, laid(2, text(100, 2))))
	lies(t, s, "c", 2)
}

// TestNoRoomToCompact: for want of free blocks, and of stamps, with and without an open block: nothing has changed, and the store goes on (P16.7).
func TestNoRoomToCompact(t *testing.T) {
	d, s := stored(t, 0, []string{"a", "b"}, []string{text(300, 1)}) // none is open
	drops(t, s, "a")
	compacts(t, s, false, api.ErrFull)
	lies(t, s, "b", 0)
	tells(t, s, 2, 301, 1, 0)
	d.breakAt(1, true, false)
	compacts(t, s, false, api.ErrFull)
	d.mend()
	drops(t, s, text(300, 1))
	syncs(t, s)
	compacts(t, s, true, api.OK)
	lies(t, s, "b", 1)

	d, s = stored(t, 1, []string{"a", "b", text(90, 1), "c"}) // some have room in the open one
	drops(t, s, "a")
	puts(t, s, text(300, 2))
	d.heard()
	d.breakAt(1, true, false)
	compacts(t, s, false, api.ErrFull)
	hears(t, "Compact", d)
	d.mend()
	for _, c := range []string{"b", text(90, 1), "c"} {
		lies(t, s, c, 0)
	}
	tells(t, s, 4, 392, 1, 0)
	d.heard()
	syncs(t, s)
	hears(t, "Sync", d, write(1, laid(2, text(300, 2))), flush())
	drops(t, s, text(90, 1)) // now there is room for all
	compacts(t, s, true, api.OK)
	lies(t, s, "b", 1)
	lies(t, s, "c", 1)

	d = newPlate(5) // the stamps
	d.lay(0, laid(1, "a", "b", text(90, 1), "c"))
	d.lay(1, laid(top-1, "x"))
	s = opened(t, d, 0, 5)
	drops(t, s, "a")
	puts(t, s, text(300, 2))
	d.heard()
	compacts(t, s, false, api.ErrFull)
	hears(t, "Compact", d)
	for _, c := range []string{"b", text(90, 1), "c"} {
		lies(t, s, c, 0)
	}
	tells(t, s, 5, 393, 1, 2)
	d = newPlate(5)
	d.lay(0, laid(top, "a", "b"))
	s = opened(t, d, 0, 5)
	drops(t, s, "a")
	compacts(t, s, false, api.ErrFull)
	lies(t, s, "b", 0)
}

// TestJustRoomToCompact: the open block has just room for all, and one byte too few, where nothing is free (P16.7).
func TestJustRoomToCompact(t *testing.T) {
	for n := 100; n <= 200; n++ {
		d, s := stored(t, 1, []string{"a", text(n, 1), text(7, 2)})
		drops(t, s, "a")
		rest := 372 - 2 - n - 2 - 7 - 2
		puts(t, s, text(rest, 3))
		d.heard()
		compacts(t, s, true, api.OK)
		hears(t, "Compact", d)
		lies(t, s, text(7, 2), 1)
		d, s = stored(t, 1, []string{"a", text(n, 1), text(7, 2)})
		drops(t, s, "a")
		puts(t, s, text(rest+1, 3))
		d.heard()
		compacts(t, s, false, api.ErrFull)
		hears(t, "Compact", d)
		lies(t, s, text(n, 1), 0)
	}
}

// TestCompactRefused: the device's error; nothing has changed but that the store is stopped (P16.7, P16.4).
func TestCompactRefused(t *testing.T) {
	for _, e := range []api.Errno{errBroken, api.ErrFull, api.ErrNone, -2, math.MaxInt} {
		d, s := stored(t, 3, []string{"a", "b", text(300, 1), "c"})
		drops(t, s, "a")
		puts(t, s, text(100, 2))
		d.refuseAt(1, e)
		d.heard()
		compacts(t, s, false, e)
		hears(t, "Compact", d, write(1, laid(2, text(100, 2), "b")))
		lies(t, s, "b", 0)
		lies(t, s, text(300, 1), 0)
		lies(t, s, "c", 0)
		lies(t, s, text(100, 2), 1)
		tells(t, s, 4, 402, 1, 2)
		compacts(t, s, false, api.ErrStop)
		want(t, "Sync", s.Sync(), api.ErrStop)
		refuses(t, s, "d", api.ErrStop)
		want(t, "Drop", s.Drop(digest("b")), api.ErrStop)
	}
}

// TestCompactReads: nothing is read: what is moved are the bytes that were put (P16.7, P16.12).
func TestCompactReads(t *testing.T) {
	d, s := stored(t, 2, []string{"a", "b"})
	drops(t, s, "a")
	d.breakAt(1, true, false)
	compacts(t, s, true, api.OK)
	hears(t, "Compact", d)
	d.mend()
	lies(t, s, "b", 1)
}

// TestCompactTwins: a chunk whose twin in the same block is dead is moved, the twin is not (P16.7).
func TestCompactTwins(t *testing.T) {
	d, s := stored(t, 3, []string{"a", "b", "a"}, []string{"b", "c"})
	tells(t, s, 3, 3, 2, 3)
	compacts(t, s, true, api.OK) // the block 1 has fewer live bytes
	lies(t, s, "c", 2)
	lies(t, s, "b", 0)
	compacts(t, s, true, api.OK)
	lies(t, s, "a", 2)
	lies(t, s, "b", 2)
	d.heard()
	syncs(t, s)
	hears(t, "Sync", d, write(2, laid(3, "c", "a", "b")), flush(), wipe(0), wipe(1), flush())
}

// TestCompactAll: again and again until it says false; behind Sync no full block has both live and dead records (P16.7, P16.11).
func TestCompactAll(t *testing.T) {
	t.Parallel()
	dice := dice(7)
	for range 200 {
		d, s := fresh(t, 40)
		var kept []string
		for i := range 100 {
			c := text(1+dice.below(100), i)
			puts(t, s, c)
			if dice.below(3) == 0 {
				drops(t, s, c)
			} else if c != "" {
				kept = append(kept, c)
			}
		}
		syncs(t, s)
		for n := 0; ; n++ {
			ok, e := s.Compact()
			if e != api.OK || n > 100 {
				t.Fatalf("Compact: error %d", e)
			}
			if !ok {
				break
			}
		}
		syncs(t, s)
		tidy(t, d, s, 40)
		for _, c := range kept {
			b, _ := s.Where(digest(c))
			lies(t, s, c, b)
		}
	}
}

// tidy: no block on the device has both live and dead records, but the one that is open: it has the greatest stamp.
func tidy(t *testing.T, d *plate, s *arena.Store, count int) {
	t.Helper()
	mixed, mixedAt, greatest, free := 0, uint64(0), uint64(0), 0
	for b, p := range d.all()[:count] {
		if p == zeros {
			free++
			continue
		}
		stamp, l := parsed(p)
		greatest = max(greatest, stamp)
		live, seen := 0, map[string]bool{}
		for _, c := range l {
			if at, is := s.Where(digest(c)); is && at == b && !seen[c] {
				live++
				seen[c] = true
			}
		}
		if live == 0 {
			t.Errorf("the block %d has no live chunk, and is not free", b)
		}
		if live < len(l) {
			mixed, mixedAt = mixed+1, stamp
		}
	}
	if mixed > 1 || mixed == 1 && mixedAt != greatest || free != s.Free() {
		t.Errorf("%d blocks have live and dead records, %d are empty, Free %d", mixed, free, s.Free())
	}
}
