package scrub_test

import (
	"slices"
	"testing"

	"granary/api"
	"granary/disk"
	"granary/scrub"
	"granary/stripe"
)

// putBack lays a block's shard of that content by hand, as it was first written to the row of its number.
func putBack(t *testing.T, g api.Geometry, disks []*disk.Disk, b, i int) {
	t.Helper()
	other, others := made(t, g, b+1)
	looks(t, other, b, "RRRRRRRR"[:g.K+g.M])
	p, ok := others[i].Stable(b)
	if !ok {
		t.Fatal("no such sector")
	}
	want(t, "Write", disks[i].Write(b, p), api.OK)
	want(t, "Flush", disks[i].Flush(), api.OK)
}

// TestGoneAgain: a block that is gone, is there again in each way in which it can be, and is gone again (P7.4).
func TestGoneAgain(t *testing.T) {
	g := api.Geometry{K: 2, M: 1, Blocks: 3, Rows: 6}
	lose := func(d *stripe.Device, disks []*disk.Disk, shards ...int) {
		row, _ := d.RowOf(1)
		for _, i := range shards {
			want(t, "Lose", disks[i].Lose(row), api.OK)
		}
	}
	d, disks := made(t, g, 3)
	s := scrub.New(d)
	last := uint64(0)
	gone := func(wrong ...int) {
		t.Helper()
		passes(t, s, 1)
		finds(t, s, api.Scan{Block: 1, Kind: api.ScanGone, Wrong: wrong})
		passes(t, s, 1)
		last++
		if tally := s.Tally(); s.At() != 0 || tally.Passes != last || !slices.Equal(tally.Gone, []int{1}) {
			t.Errorf("gone: At %d, Tally %+v", s.At(), tally)
		}
	}
	there := func(kind int, wrong ...int) {
		t.Helper()
		passes(t, s, 1)
		if l := s.Tally().Gone; !slices.Equal(l, []int{1}) {
			t.Errorf("ahead of the look: Gone %v", l)
		}
		finds(t, s, api.Scan{Block: 1, Kind: kind, Wrong: wrong})
		passes(t, s, 1)
		last++
		if tally := s.Tally(); s.At() != 0 || tally.Passes != last || len(tally.Gone) != 0 {
			t.Errorf("there again: At %d, Tally %+v", s.At(), tally)
		}
	}
	lose(d, disks, 0, 1)
	gone(0, 1)
	gone(0, 1)
	putBack(t, g, disks, 1, 1)
	there(api.ScanHealed, 0)
	lose(d, disks, 1, 2)
	gone(1, 2)
	want(t, "Write", d.Write(1, full('n')), api.OK)
	there(api.ScanRight)
	want(t, "Flush", d.Flush(), api.OK)
	lose(d, disks, 0, 1, 2)
	gone(0, 1, 2)
	// Nothing of the block is left anywhere: behind Open it lies nowhere.
	row, _ := d.RowOf(1)
	for i := range disks {
		disks[i].Write(1, make([]byte, stripe.ShardBytes(g)))
		disks[i].Write(row, make([]byte, stripe.ShardBytes(g)))
		disks[i].Flush()
	}
	d = opened(t, g, disks)
	s = loaded(t, d, s.Save())
	there(api.ScanEmpty)
}

// TestGoneThenRefused: a block that was gone and can not be healed since a disk refuses is no longer gone (P7.4).
func TestGoneThenRefused(t *testing.T) {
	d, disks := refusing(t, 1, 1)
	other := disks[0].Copy()
	disks[0].Lose(0)
	disks[1].Lose(0)
	s := scrub.New(d)
	finds(t, s, api.Scan{Kind: api.ScanGone, Wrong: []int{0, 1}})
	passes(t, s, 1)
	stands(t, s, 0, api.Tally{Steps: 2, Passes: 1, Right: 1, Wrong: 2, Gone: []int{0}})
	p, _ := other.Stable(0)
	disks[0].Flush()
	disks[0].Write(0, p)
	finds(t, s, api.Scan{Kind: api.ScanError, Wrong: []int{1}, Err: api.ErrMany})
	stands(t, s, 1, api.Tally{Steps: 3, Passes: 1, Right: 1, Wrong: 3})
}

// TestGoneRises: blocks that go and come back in any order: those that were gone when they were last looked at, rising (P7.4).
func TestGoneRises(t *testing.T) {
	g := api.Geometry{K: 1, M: 0, Blocks: 6, Rows: 20}
	dice := dice(74)
	d, disks := made(t, g, 6)
	s := scrub.New(d)
	gone := map[int]bool{}
	for range 2000 {
		b := dice.below(6)
		if dice.below(3) > 0 {
			row, _ := d.RowOf(b)
			disks[0].Lose(row)
		} else {
			want(t, "Write", d.Write(b, full('n')), api.OK)
			want(t, "Flush", d.Flush(), api.OK)
		}
		found, _ := s.Step()
		delete(gone, found.Block)
		if found.Kind == api.ScanGone {
			gone[found.Block] = true
		}
		var rising []int
		for b := range 6 {
			if gone[b] {
				rising = append(rising, b)
			}
		}
		if got := s.Tally().Gone; !slices.Equal(got, rising) {
			t.Fatalf("Gone %v, want %v", got, rising)
		}
	}
}

// TestTally: each number behind each kind of step (P7.4).
func TestTally(t *testing.T) {
	s := scrub.New(sickly(t))
	stands(t, s, 0, api.Tally{})
	passes(t, s, 1) // right
	stands(t, s, 1, api.Tally{Steps: 1, Right: 1})
	passes(t, s, 1) // empty
	stands(t, s, 2, api.Tally{Steps: 2, Right: 1})
	passes(t, s, 1) // gone
	stands(t, s, 3, api.Tally{Steps: 3, Right: 1, Wrong: 3, Gone: []int{2}})
	passes(t, s, 1) // healed, and a pass is over
	stands(t, s, 0, api.Tally{Steps: 4, Passes: 1, Right: 1, Wrong: 5, Healed: 2, Gone: []int{2}})
	passes(t, s, 3)
	stands(t, s, 3, api.Tally{Steps: 7, Passes: 1, Right: 2, Wrong: 8, Healed: 2, Gone: []int{2}})
	passes(t, s, 1) // right now
	stands(t, s, 0, api.Tally{Steps: 8, Passes: 2, Right: 3, Wrong: 8, Healed: 2, Gone: []int{2}})
}
