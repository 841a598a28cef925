package stripe_test

import (
	"slices"
	"testing"

	"granary/api"
	"granary/disk"
	"granary/stripe"
)

// TestNoBlock: numbers of no block, and blocks that lie nowhere (P6.7).
func TestNoBlock(t *testing.T) {
	d, disks := made(t, small)
	write(t, d, 1, full('x'))
	before := copies(disks)
	for range 2 {
		for _, b := range strangers(3) {
			liesNowhere(t, d, b)
			heals(t, d, b, 0, api.ErrArg)
			if s, e := d.Look(b); e != api.ErrArg || len(s) != 0 {
				t.Errorf("Look(%d): %v, error %d", b, s, e)
			}
		}
		for _, b := range []int{0, 2} {
			liesNowhere(t, d, b)
			heals(t, d, b, 0, api.ErrNone)
			if s, e := d.Look(b); e != api.ErrNone || len(s) != 0 {
				t.Errorf("Look(%d): %v, error %d", b, s, e)
			}
		}
		untouched(t, "no block", disks, before)
		for i := range disks {
			disks[i].Fail()
			before[i].Fail()
		}
	}
}

// hurtBy does to one shard what the letter says: Fail, Replace, Lose, Turn, or write another Block, Sequence or Index; what Look then tells.
func hurtBy(t *testing.T, g api.Geometry, d *disk.Disk, row, i int, how byte) byte {
	t.Helper()
	other := api.Shard{Block: 1, Sequence: 1, Index: i, K: g.K, M: g.M, Data: full('a')[:384/g.K]}
	switch how {
	case 'F':
		d.Fail()
		return 'F'
	case 'R':
		d.Replace()
	case 'L':
		want(t, "Lose", d.Lose(row), api.OK)
	case 'T':
		want(t, "Turn", d.Turn(row, 8*(g.K+i), 1), api.OK)
	case 'B':
		other.Block = 0
		lay(t, d, row, schoolPut(other))
	case 'S':
		other.Sequence = 2
		lay(t, d, row, schoolPut(other))
	case 'I':
		other.Index = (i + 1) % (g.K + g.M)
		if g.K+g.M == 1 {
			other.M = 1
		}
		lay(t, d, row, schoolPut(other))
	}
	return 'W'
}

// TestLookAndHeal: every set of shards of a block, hurt in each way (P6.7).
func TestLookAndHeal(t *testing.T) {
	everyCount(2, 4, func(g api.Geometry) {
		fresh, disks := made(t, g)
		write(t, fresh, 1, full('a'))
		flush(t, fresh)
		parts(g.K+g.M, func(gone []int) {
			for shift := range 2 {
				checkHurt(t, g, disks, gone, shift)
			}
		})
	})
}

// checkHurt hurts the named shards, and looks and heals.
func checkHurt(t *testing.T, g api.Geometry, disks []*disk.Disk, gone []int, shift int) {
	t.Helper()
	now := copies(disks)
	d := opened(t, g, now)
	states := []byte("RRRRRRRR")[:g.K+g.M]
	wrong := 0
	for n, i := range gone {
		states[i] = hurtBy(t, g, now[i], 0, i, "FRLTBSI"[(n+i+4*shift)%7])
		if states[i] == 'W' {
			wrong++
		}
	}
	looks(t, d, 1, string(states))
	before := copies(now)
	if len(gone) > g.M {
		heals(t, d, 1, 0, api.ErrGone)
		untouched(t, "a block that is gone", now, before)
		return
	}
	heals(t, d, 1, wrong, api.OK)
	sectors := rowBytes(t, g, 1, 1, full('a'))
	for i, each := range now {
		if states[i] != 'W' {
			if !disk.Same(each, before[i]) {
				t.Errorf("%v gone: the disk %d was written", gone, i)
			}
			continue
		}
		if q := each.Queue(); len(q) != 1 || q[0] != (api.Sector{At: 0, Data: string(sectors[i])}) {
			t.Errorf("%v gone: the queue of the disk %d is %x", gone, i, q)
		}
		states[i] = 'R'
	}
	looks(t, d, 1, string(states))
	heals(t, d, 1, 0, api.OK)
	stands(t, d, 3, 2)
}

// TestHealRefused: at the first error of a disk 0 and that; the disks ahead of it have their shard (P6.7).
func TestHealRefused(t *testing.T) {
	d, disks := refusing(t, 1, 3, 2)
	disks[0].Replace()
	disks[1].Lose(0)
	disks[2].Lose(0)
	looks(t, d, 0, "WWWR")
	heals(t, d, 0, 0, api.ErrMany)
	looks(t, d, 0, "RWWR")
	heals(t, d, 0, 0, api.ErrMany)
	disks[1].Flush()
	looks(t, d, 0, "RWWR")
	heals(t, d, 0, 2, api.OK)
	looks(t, d, 0, "RRRR")
}

// TestRebuild: all blocks, and what was written becomes stable (P6.8).
func TestRebuild(t *testing.T) {
	everyCount(4, 9, func(g api.Geometry) {
		d, disks := made(t, g)
		rebuilds(t, d, 0, api.OK)
		for _, b := range []int{0, 1, 3} {
			write(t, d, b, full(byte('a'+b)))
		}
		write(t, d, 1, full('B'))
		rebuilds(t, d, 0, api.OK)
		stands(t, d, 6, 5) // it is a Flush
		for i := range g.M {
			disks[(g.K+i)%(g.K+g.M)].Replace()
		}
		rebuilds(t, d, 3*g.M, api.OK)
		crash(disks)
		looks(t, d, 1, "RRRRRRRR"[:g.K+g.M])
		reads(t, d, 1, full('B'))
		rebuilds(t, d, 0, api.OK)
		if g.M == 0 {
			return
		}
		disks[0].Fail()
		disks[g.K+g.M-1].Lose(3)
		if g.M == 1 {
			rebuilds(t, d, 0, api.ErrGone)
		} else {
			rebuilds(t, d, 1, api.OK)
		}
	})
}

// TestRebuildErrors: of the errors of Heal the first, with what was written until the end; else Flush's (P6.8).
func TestRebuildErrors(t *testing.T) {
	g := api.Geometry{K: 2, M: 2, Blocks: 5, Rows: 9}
	d, disks := made(t, g)
	for b := range 4 {
		write(t, d, b, full(byte('a'+b)))
	}
	flush(t, d)
	disks[3].Lose(0)
	for i := 1; i < 4; i++ {
		disks[i].Lose(1)
		disks[i].Turn(3, 0, 1)
	}
	disks[0].Lose(2)
	disks[1].Lose(2)
	loses(t, d, 1, 3)
	rebuilds(t, d, 3, api.ErrGone)
	loses(t, d, 1, 3)
	looks(t, d, 0, "RRRR")
	looks(t, d, 2, "RRRR")
	crash(disks) // it was a Flush though there was an error
	looks(t, d, 2, "RRRR")
	for i := range 3 {
		disks[i].Fail()
	}
	rebuilds(t, d, 0, api.ErrGone)

	d, disks = made(t, g)
	for i := range 3 {
		disks[i].Fail()
	}
	rebuilds(t, d, 0, api.ErrFew)
}

// TestRebuildRefused: an error of a disk stops the block's healing, but not the others'; all shards that were written count (P6.8).
func TestRebuildRefused(t *testing.T) {
	d, disks := refusing(t, 1, 3, 2)
	disks[0].Replace()
	disks[1].Lose(0)
	disks[2].Lose(0)
	row, _ := d.RowOf(1)
	want(t, "Lose", disks[2].Lose(row), api.OK)
	looks(t, d, 0, "WWWR")
	looks(t, d, 1, "WRWR")
	// Of the block 0 the shard 0 is written, and the disk 1 refuses; of the block 1 two are.
	rebuilds(t, d, 3, api.ErrMany)
	looks(t, d, 0, "RWWR")
	looks(t, d, 1, "RRRR")
	rebuilds(t, d, 2, api.OK)

	// The error of a disk ahead of a block that is gone, and behind one.
	d, disks = refusing(t, 1, 1)
	disks[0].Lose(0)
	row, _ = d.RowOf(1)
	disks[0].Flush()
	disks[0].Lose(row)
	disks[1].Fail()
	rebuilds(t, d, 0, api.ErrGone)
}

// TestFirstError: the first block's error, not the worst (P6.8).
func TestFirstError(t *testing.T) {
	g := api.Geometry{K: 1, M: 1, Blocks: 3, Rows: 4200}
	for _, gone := range []int{0, 1} {
		d, disks := made(t, g)
		write(t, d, 0, full('0'))
		write(t, d, 1, full('1'))
		flush(t, d)
		fill(t, d)
		disks[0].Lose(gone)
		disks[1].Lose(gone)
		disks[0].Lose(1 - gone)
		loses(t, d, gone)
		e := api.ErrGone
		if gone == 1 {
			e = api.ErrMany
		}
		rebuilds(t, d, 0, e)
	}
}

// TestLost: the blocks of which Read would answer ErrGone, rising (P6.8).
func TestLost(t *testing.T) {
	dice := dice(68)
	everyCount(6, 12, func(g api.Geometry) {
		d, disks := made(t, g)
		for _, b := range []int{5, 0, 3, 2} {
			write(t, d, b, full(byte(b)))
		}
		flush(t, d)
		for range 20 {
			var gone []int
			for b := range 6 {
				if _, e := d.Read(b); e == api.ErrGone {
					gone = append(gone, b)
				}
			}
			loses(t, d, gone...)
			disks[dice.below(len(disks))].Lose(dice.below(4))
		}
		for _, each := range disks {
			each.Fail()
		}
		loses(t, d, 0, 2, 3, 5)
	})
}

// TestNil: every method of a nil Device (P6.8).
func TestNil(t *testing.T) {
	var d *stripe.Device
	for _, b := range []int{0, -1, 1, 1 << 40} {
		readsNone(t, d, b, api.ErrNone)
		want(t, "Write", d.Write(b, full('x')), api.ErrNone)
		want(t, "Write", d.Write(b, nil), api.ErrNone)
		heals(t, d, b, 0, api.ErrNone)
		liesNowhere(t, d, b)
		if s, e := d.Look(b); e != api.ErrNone || len(s) != 0 {
			t.Errorf("Look: %v, error %d", s, e)
		}
	}
	want(t, "Flush", d.Flush(), api.ErrNone)
	rebuilds(t, d, 0, api.ErrNone)
	loses(t, d)
	stands(t, d, 0, 0)
	if d.Len() != 0 || len(d.Disks()) != 0 || d.Geometry() != (api.Geometry{}) {
		t.Errorf("Len %d, Disks %v, Geometry %+v", d.Len(), d.Disks(), d.Geometry())
	}
}

// TestGreatest: the greatest device, whose blocks all lie somewhere, with a disk replaced (P6.1, P6.3, P6.8).
func TestGreatest(t *testing.T) {
	g := api.Geometry{K: 4, M: 1, Blocks: 4096, Rows: 8192}
	d, disks := made(t, g)
	for b := range 4096 {
		write(t, d, b, full(byte(b%251)))
	}
	flush(t, d)
	stands(t, d, 4096, 4097)
	whole := copies(disks)
	disks[2].Replace()
	d = opened(t, g, disks)
	untouched(t, "healed", disks, whole)
	stands(t, d, 4096, 4097)
	for b := range 4096 {
		write(t, d, 4095-b, full('n'))
	}
	want(t, "Write", d.Write(0, full('n')), api.ErrFull)
	lies(t, d, 4095, 4096)
	crash(disks)
	d = opened(t, g, disks)
	for b := 0; b < 4096; b += 97 {
		reads(t, d, b, full(byte(b%251)))
	}
	if !slices.Equal(d.Disks(), disks) {
		t.Error("other disks")
	}
}
