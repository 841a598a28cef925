package stripe_test

import (
	"math"
	"slices"
	"testing"

	"granary/api"
	"granary/disk"
	"granary/stripe"
)

// refuses: Open answers nil and the error, and leaves the disks as they were.
func refuses(t *testing.T, name string, g api.Geometry, disks []*disk.Disk, e api.Errno) {
	t.Helper()
	before := copies(disks)
	if d, got := stripe.Open(g, disks); got != e || d != nil {
		t.Errorf("%s: Open: %v, error %d, want error %d", name, d, got, e)
	}
	untouched(t, name, disks, before)
}

// sized is a disk of the size.
func sized(t *testing.T, sectors, size int) *disk.Disk {
	t.Helper()
	d, e := disk.New(sectors, size)
	want(t, "disk.New", e, api.OK)
	return d
}

// TestOpenRefuses: the errors one by one (P6.3).
func TestOpenRefuses(t *testing.T) {
	right := newDisks(t, small, 0)
	for _, g := range []api.Geometry{{}, {K: 5, M: 1, Blocks: 3, Rows: 5}, {K: 2, M: -1, Blocks: 3, Rows: 5}, {K: 2, M: 1, Blocks: 5, Rows: 5}, {K: 2, M: 1, Blocks: 3, Rows: math.MaxInt}} {
		refuses(t, "a wrong geometry", g, right, api.ErrArg)
	}
	refuses(t, "no disks", small, nil, api.ErrNone)
	refuses(t, "no disks but a list", small, []*disk.Disk{}, api.ErrNone)
	refuses(t, "too few disks", small, right[:2], api.ErrNone)
	refuses(t, "too many disks", small, append(right[:3:3], sized(t, 5, 224)), api.ErrNone)
	for i := range right {
		for name, other := range map[string]*disk.Disk{
			"a sector too few": sized(t, 4, 224), "smaller sectors": sized(t, 5, 223),
			"greater sectors": sized(t, 5, 225), "sectors of another K": sized(t, 5, 416),
		} {
			disks := slices.Clone(right)
			disks[i] = other
			refuses(t, name, small, disks, api.ErrArg)
		}
		disks := slices.Clone(right)
		disks[i] = nil
		refuses(t, "a nil disk", small, disks, api.ErrNone)
	}
	write(t, opened(t, small, right), 0, full('a'))
	right[0].Fail()
	right[2].Fail()
	refuses(t, "two that have failed", small, right, api.ErrFew)
	right[1].Fail()
	refuses(t, "three that have failed", small, right, api.ErrFew)
}

// TestOpenRefusesFirst: of two errors the one that the chapter names first (P6.3).
func TestOpenRefusesFirst(t *testing.T) {
	wrong := api.Geometry{K: 0, M: 3, Blocks: 3, Rows: 5}
	right := newDisks(t, small, 0)
	refuses(t, "a wrong geometry and no disks", wrong, nil, api.ErrArg)
	refuses(t, "a wrong geometry and nil disks", wrong, []*disk.Disk{nil, nil, nil}, api.ErrArg)
	refuses(t, "too few disks, one too small", small, []*disk.Disk{sized(t, 4, 224), right[1]}, api.ErrNone)
	refuses(t, "a nil disk behind one that is too small", small, []*disk.Disk{sized(t, 4, 224), right[1], nil}, api.ErrNone)
	refuses(t, "a nil disk ahead of one with other sectors", small, []*disk.Disk{nil, right[1], sized(t, 5, 99)}, api.ErrNone)
	failed := newDisks(t, small, 0)
	for _, d := range failed {
		d.Fail()
	}
	refuses(t, "a wrong geometry and failed disks", wrong, failed, api.ErrArg)
	refuses(t, "too few disks, all failed", small, failed[:2], api.ErrNone)
	refuses(t, "failed disks, one nil", small, []*disk.Disk{failed[0], failed[1], nil}, api.ErrNone)
	refuses(t, "failed disks, one too small", small, []*disk.Disk{failed[0], failed[1], sized(t, 4, 224)}, api.ErrArg)
	small := sized(t, 4, 224)
	small.Fail()
	refuses(t, "failed disks, one of them too small", api.Geometry{K: 2, M: 1, Blocks: 3, Rows: 5}, []*disk.Disk{failed[0], failed[1], small}, api.ErrArg)
}

// TestOpenFew: just K disks are enough (P6.3).
func TestOpenFew(t *testing.T) {
	everyCount(2, 4, func(g api.Geometry) {
		d, disks := made(t, g)
		write(t, d, 1, full('f'))
		flush(t, d)
		for i := range g.M {
			disks[(i*2+1)%(g.K+g.M)].Fail()
		}
		working := 0
		for _, each := range disks {
			if !each.Failed() {
				working++
			}
		}
		for i := 0; working > g.K; i++ {
			if !disks[i].Failed() {
				disks[i].Fail()
				working--
			}
		}
		reads(t, opened(t, g, disks), 1, full('f'))
		for _, each := range disks {
			if !each.Failed() {
				each.Fail()
				break
			}
		}
		refuses(t, "one fewer than K", g, disks, api.ErrFew)
	})
}

// TestNew: a device on disks that nobody wrote to (P6.3, P6.8).
func TestNew(t *testing.T) {
	everyCount(3, 5, func(g api.Geometry) {
		d, disks := made(t, g)
		untouched(t, "a new device", disks, newDisks(t, g, 0))
		stands(t, d, 5, 1)
		loses(t, d)
		for b := range 3 {
			reads(t, d, b, full(0))
			liesNowhere(t, d, b)
		}
		if d.Len() != 3 || d.Geometry() != g || !slices.Equal(d.Disks(), disks) {
			t.Errorf("Len %d, Geometry %+v, Disks %v", d.Len(), d.Geometry(), d.Disks())
		}
	})
}

// TestMoreSectors: sectors behind the rows have no part (P6.3).
func TestMoreSectors(t *testing.T) {
	disks := newDisks(t, small, 3)
	for row := 5; row < 8; row++ {
		layRow(t, small, disks, row, 1, uint64(70+row), full('m'))
	}
	before := copies(disks)
	d := opened(t, small, disks)
	stands(t, d, 5, 1)
	liesNowhere(t, d, 1)
	untouched(t, "more sectors", disks, before)
	for i := range 6 {
		if e := d.Write(1, full(byte(i))); (e == api.OK) != (i < 5) {
			t.Errorf("the write %d: error %d", i, e)
		}
	}
	disks[0].Replace()
	disks[1].Lose(6)
	rebuilds(t, d, 1, api.OK)
	if p, _ := disks[0].Stable(6); !slices.Equal(p, make([]byte, 224)) {
		t.Error("a sector behind the rows was written")
	}
}

// TestUnequalDisks: one disk with more sectors than another (P6.3).
func TestUnequalDisks(t *testing.T) {
	disks := []*disk.Disk{sized(t, 5, 224), sized(t, 9, 224), sized(t, 65536, 224)}
	d := opened(t, small, disks)
	write(t, d, 2, full('u'))
	flush(t, d)
	reads(t, opened(t, small, disks), 2, full('u'))
}

// TestGreatestSequence: the row with the greatest sequence, of several with that sequence the first (P6.3).
func TestGreatestSequence(t *testing.T) {
	disks := newDisks(t, small, 0)
	layRow(t, small, disks, 0, 1, 4, full('a'))
	layRow(t, small, disks, 1, 1, 7, full('b'))
	layRow(t, small, disks, 2, 1, 7, full('c'))
	layRow(t, small, disks, 3, 1, 6, full('d'))
	layRow(t, small, disks, 4, 0, 7, full('e'))
	d := opened(t, small, disks)
	lies(t, d, 1, 1)
	reads(t, d, 1, full('b'))
	lies(t, d, 0, 4)
	reads(t, d, 0, full('e'))
	liesNowhere(t, d, 2)
	stands(t, d, 3, 8)
	write(t, d, 2, full('f'))
	lies(t, d, 2, 0)
}

// TestTooFewRight: a row with fewer than K right shards holds nothing, though its sequences count (P6.3).
func TestTooFewRight(t *testing.T) {
	for only := range 3 {
		disks := newDisks(t, small, 0)
		layRow(t, small, disks, 2, 0, 5, full('a'))
		layRow(t, small, disks, 3, 0, 90, full('b'), only)
		d := opened(t, small, disks)
		lies(t, d, 0, 2)
		reads(t, d, 0, full('a'))
		stands(t, d, 4, 91)
	}
	disks := newDisks(t, small, 0)
	layRow(t, small, disks, 1, 0, 5, full('a'), 0)
	layRow(t, small, disks, 1, 0, 6, full('b'), 1)
	layRow(t, small, disks, 1, 2, 6, full('c'), 2)
	before := copies(disks)
	d := opened(t, small, disks)
	for b := range 3 {
		liesNowhere(t, d, b)
		reads(t, d, b, full(0))
	}
	stands(t, d, 5, 7)
	untouched(t, "a row that holds nothing", disks, before)
}

// TestNotRight: sectors that are no right shards have no part, not even their sequences (P6.3).
func TestNotRight(t *testing.T) {
	other := func(change func(s *api.Shard)) []byte {
		s := api.Shard{Block: 1, Sequence: 88, Index: 2, K: 2, M: 1, Data: full('n')[:192]}
		change(&s)
		return schoolPut(s)
	}
	turned := other(func(*api.Shard) {})
	turned[100] ^= 8
	sectors := map[string][]byte{
		"another M":                    other(func(s *api.Shard) { s.M = 2 }),
		"another Index":                other(func(s *api.Shard) { s.Index = 1 }),
		"a Block that is not below":    other(func(s *api.Shard) { s.Block = 3 }),
		"the greatest Block":           other(func(s *api.Shard) { s.Block = 4095 }),
		"no Block":                     other(func(s *api.Shard) { s.Block = 4096 }),
		"Sequence 0":                   other(func(s *api.Shard) { s.Sequence = 0 }),
		"another K":                    other(func(s *api.Shard) { s.K = 3 }),
		"another K, and short":         append(other(func(s *api.Shard) { s.K, s.Data = 3, s.Data[:128] }), make([]byte, 64)...),
		"a turned bit":                 turned,
		"bytes":                        full('n')[:224],
		"an Index that there is not":   other(func(s *api.Shard) { s.Index = 3 }),
		"an M with which it would fit": other(func(s *api.Shard) { s.M = 4 }),
	}
	for name, sector := range sectors {
		disks := newDisks(t, small, 0)
		layRow(t, small, disks, 3, 1, 20, full('r'), 0, 1)
		lay(t, disks[2], 3, sector)
		lay(t, disks[2], 4, sector)
		d := opened(t, small, disks)
		if d.Sequence() != 21 {
			t.Errorf("%s: the next sequence is %d", name, d.Sequence())
		}
		lies(t, d, 1, 3)
		looks(t, d, 1, "RRR")
		if p, _ := disks[2].Stable(3); !slices.Equal(p, rowBytes(t, small, 1, 20, full('r'))[2]) {
			t.Errorf("%s: it was not healed: %x", name, p)
		}
		if p, _ := disks[2].Stable(4); !slices.Equal(p, sector) {
			t.Errorf("%s: the sector of a row that holds nothing was written", name)
		}
	}
}

// TestOtherCounts: a device of another K or M finds nothing on the disks (P6.3).
func TestOtherCounts(t *testing.T) {
	d, disks := made(t, small)
	write(t, d, 0, full('a'))
	flush(t, d)
	for _, m := range []int{0, 2} {
		g := api.Geometry{K: 2, M: m, Blocks: 3, Rows: 5}
		others := append(copies(disks), sized(t, 5, 224))[:2+m]
		other := opened(t, g, others)
		liesNowhere(t, other, 0)
		reads(t, other, 0, full(0))
		stands(t, other, 5, 1)
	}
}

// TestDisksInAnotherOrder: a shard is right on its own disk only (P6.3).
func TestDisksInAnotherOrder(t *testing.T) {
	g := api.Geometry{K: 2, M: 2, Blocks: 3, Rows: 5}
	d, disks := made(t, g)
	write(t, d, 0, full('a'))
	flush(t, d)
	two := copies(disks)
	two[0], two[3] = two[3], two[0]
	e := opened(t, g, two)
	reads(t, e, 0, full('a'))
	looks(t, e, 0, "RRRR")
	all := copies(disks)
	slices.Reverse(all)
	liesNowhere(t, opened(t, g, all), 0)
	// One disk in all places has at most one right shard of a row.
	one := disks[1].Copy()
	e = opened(t, g, []*disk.Disk{one, one, one, one})
	liesNowhere(t, e, 0)
	write(t, e, 0, full('b'))
	looks(t, e, 0, "WWWR")
	readsNone(t, e, 0, api.ErrGone)
}

// TestTwoBlocksInARow: with K 1 a row may hold two blocks; each lies there, and the first one is healed first (P6.3).
func TestTwoBlocksInARow(t *testing.T) {
	g := api.Geometry{K: 1, M: 2, Blocks: 3, Rows: 4}
	disks := newDisks(t, g, 0)
	layRow(t, g, disks, 1, 2, 8, full('c'), 0, 1)
	layRow(t, g, disks, 1, 0, 3, full('a'), 2)
	d := opened(t, g, disks)
	lies(t, d, 0, 1)
	lies(t, d, 2, 1)
	reads(t, d, 0, full('a'))
	readsNone(t, d, 2, api.ErrGone)
	loses(t, d, 2)
	stands(t, d, 3, 9)
	write(t, d, 0, full('b'))
	stands(t, d, 2, 10)
	flush(t, d)
	stands(t, d, 2, 10) // the block 2 lies there still
	write(t, d, 2, full('d'))
	flush(t, d)
	stands(t, d, 2, 11)
	loses(t, d)
}

// TestOneRowTwoSequences: with K 1 a row may hold a block with two sequences; the greater one counts (P6.3).
func TestOneRowTwoSequences(t *testing.T) {
	g := api.Geometry{K: 1, M: 1, Blocks: 1, Rows: 2}
	for later := range 2 {
		disks := newDisks(t, g, 0)
		layRow(t, g, disks, 1, 0, 5, full('o'), 1-later)
		layRow(t, g, disks, 1, 0, 6, full('n'), later)
		d := opened(t, g, disks)
		reads(t, d, 0, full('n'))
		looks(t, d, 0, "RR")
		stands(t, d, 1, 7)
	}
}

// TestSameSequence: two blocks may have one sequence, also in one row (P6.3, P6.4).
func TestSameSequence(t *testing.T) {
	g := api.Geometry{K: 1, M: 1, Blocks: 2, Rows: 3}
	disks := newDisks(t, g, 0)
	layRow(t, g, disks, 0, 0, 5, full('a'), 0)
	layRow(t, g, disks, 0, 1, 5, full('b'), 1)
	disks[1].Turn(0, 0, 1)
	layRow(t, g, disks, 1, 1, 5, full('c'))
	d := opened(t, g, disks)
	reads(t, d, 0, full('a'))
	reads(t, d, 1, full('c'))
}

// TestOpenHeals: what lies somewhere is healed, and made stable (P6.3).
func TestOpenHeals(t *testing.T) {
	everyCount(3, 5, func(g api.Geometry) {
		for hurt := range g.M + 1 {
			d, disks := made(t, g)
			write(t, d, 0, full('a'))
			write(t, d, 2, full('b'))
			flush(t, d)
			whole := copies(disks)
			for i := range hurt {
				disks[i].Lose(0)
				disks[g.K+g.M-1-i].Turn(1, 77, 0xffffffff)
			}
			d = opened(t, g, disks)
			untouched(t, "healed", disks, whole)
			reads(t, d, 0, full('a'))
			reads(t, d, 2, full('b'))
			stands(t, d, 3, 3)
			for i := range disks {
				if n := disks[i].Writes() - whole[i].Writes(); n > 2 || hurt == 0 && n > 0 {
					t.Errorf("%d writes of the disk %d", n, i)
				}
			}
		}
	})
}

// TestOpenTakesWhatWaits: writes that wait are read, and flushed (P6.3).
func TestOpenTakesWhatWaits(t *testing.T) {
	d, disks := made(t, small)
	write(t, d, 0, full('w'))
	d = opened(t, small, disks)
	reads(t, d, 0, full('w'))
	stands(t, d, 4, 2)
	crash(disks)
	reads(t, opened(t, small, disks), 0, full('w'))
}

// TestOpenPassesOver: an error of Heal in Open stops neither it nor the healing of the others (P6.3).
func TestOpenPassesOver(t *testing.T) {
	d, disks := made(t, small)
	for b := range 3 {
		write(t, d, b, full(byte('a'+b)))
	}
	flush(t, d)
	disks[0].Replace()
	disks[1].Lose(1)
	disks[1].Lose(2)
	disks[2].Lose(2)
	// A queue that is full refuses what Heal writes.
	for range 4096 {
		want(t, "disk.Write", disks[1].Write(4, full('x')[:224]), api.OK)
	}
	d = opened(t, small, disks)
	liesNowhere(t, d, 1)
	liesNowhere(t, d, 2)
	looks(t, d, 0, "RRR")

	g := api.Geometry{K: 1, M: 1, Blocks: 3, Rows: 5}
	d, disks = made(t, g)
	for b := range 3 {
		write(t, d, b, full(byte('a'+b)))
	}
	flush(t, d)
	disks[0].Lose(0)
	disks[1].Lose(1)
	for range 4096 {
		want(t, "disk.Write", disks[0].Write(4, full('x')), api.ErrSize)
		want(t, "disk.Write", disks[0].Write(4, append(full('x'), make([]byte, 32)...)), api.OK)
	}
	d = opened(t, g, disks)
	looks(t, d, 0, "WR")
	looks(t, d, 1, "RR")
	looks(t, d, 2, "RR")
	if len(disks[0].Queue())+len(disks[1].Queue()) > 0 {
		t.Error("the disks are not flushed")
	}
	heals(t, d, 0, 1, api.OK)
}

// TestLastSequence: behind the greatest sequence there is none; what is there stays, and nothing more is written.
func TestLastSequence(t *testing.T) {
	disks := newDisks(t, small, 0)
	layRow(t, small, disks, 2, 1, math.MaxUint64, full('z'))
	d := opened(t, small, disks)
	stands(t, d, 4, 0)
	before := copies(disks)
	for range 3 {
		want(t, "Write", d.Write(1, full('y')), api.ErrShard)
		want(t, "Write", d.Write(3, full('y')), api.ErrArg)
		stands(t, d, 4, 0)
	}
	untouched(t, "a write that is refused", disks, before)
	reads(t, d, 1, full('z'))
	disks[0].Lose(2)
	heals(t, d, 1, 1, api.OK)
	looks(t, d, 1, "RRR")

	disks = newDisks(t, small, 0)
	layRow(t, small, disks, 2, 1, math.MaxUint64-1, full('z'))
	d = opened(t, small, disks)
	write(t, d, 1, full('y'))
	stands(t, d, 3, 0)
	flush(t, d)
	reads(t, opened(t, small, disks), 1, full('y'))
}
