package scrub

import (
	"slices"
	"testing"

	"granary/api"
	"granary/disk"
	"granary/stripe"
)

// opened is a device of two blocks on two disks, of which the first is written and flushed.
func opened(t *testing.T) (*stripe.Device, []*disk.Disk) {
	t.Helper()
	g := api.Geometry{K: 1, M: 1, Blocks: 2, Rows: 4}
	var disks []*disk.Disk
	for range 2 {
		each, e := disk.New(g.Rows, stripe.ShardBytes(g))
		if e != api.OK {
			t.Fatalf("disk.New: error %d", e)
		}
		disks = append(disks, each)
	}
	d, e := stripe.Open(g, disks)
	if e != api.OK {
		t.Fatalf("Open: error %d", e)
	}
	if e := d.Write(0, make([]byte, api.BlockBytes)); e != api.OK || d.Flush() != api.OK {
		t.Fatalf("Write: error %d", e)
	}
	return d, disks
}

// unflushed is a device all of whose disks fail ahead of a Flush. On one goroutine that can not be with a stripe.Device: where Heal was OK, K disks have not failed.
type unflushed struct {
	*stripe.Device
	flushes int
}

func (u *unflushed) Flush() api.Errno {
	u.flushes++
	for _, each := range u.Disks() {
		each.Fail()
	}
	return u.Device.Flush()
}

// TestFlushError: the block is told as healed, with the error of the Flush, and what Heal told counts (P7.2, P7.4).
func TestFlushError(t *testing.T) {
	d, disks := opened(t)
	disks[1].Lose(0)
	u := &unflushed{Device: d}
	s := &Scrub{device: u}
	found, e := s.Step()
	if e != api.OK || found.Block != 0 || found.Kind != api.ScanHealed || !slices.Equal(found.Wrong, []int{1}) || found.Err != api.ErrFew {
		t.Errorf("Step: %+v, error %d", found, e)
	}
	if y := s.Tally(); s.At() != 1 || y.Steps != 1 || y.Wrong != 1 || y.Healed != 1 || y.Right != 0 || len(y.Gone) != 0 {
		t.Errorf("At %d, Tally %+v", s.At(), y)
	}
	if found, e := s.Step(); e != api.OK || found.Kind != api.ScanEmpty || found.Err != api.OK {
		t.Errorf("Step: %+v, error %d", found, e)
	}
	if found, e := s.Step(); e != api.OK || found.Kind != api.ScanGone || len(found.Wrong) != 0 || found.Err != api.OK {
		t.Errorf("Step: %+v, error %d", found, e)
	}
	if u.flushes != 1 {
		t.Errorf("%d flushes", u.flushes)
	}
}

// TestFlushedOnce: the device is flushed behind a Heal, and at no other time (P7.2).
func TestFlushedOnce(t *testing.T) {
	d, disks := opened(t)
	u := &unflushed{Device: d}
	s := &Scrub{device: u}
	if _, e := s.Run(100); e != api.OK || u.flushes != 0 {
		t.Errorf("Run: error %d, %d flushes", e, u.flushes)
	}
	disks[0].Lose(0)
	disks[1].Lose(0)
	if _, e := s.Run(100); e != api.OK || u.flushes != 0 {
		t.Errorf("Run: error %d, %d flushes", e, u.flushes)
	}
}

// TestForged: numbers that no scrubber can have counted are refused, those at the edge are not (P7.5).
func TestForged(t *testing.T) {
	d, _ := opened(t)
	for _, c := range []struct {
		e       api.Errno
		numbers []uint64
	}{
		{api.OK, []uint64{2, 0, 0, 0, 0, 0}},
		{api.ErrCursor, []uint64{2, 0, 0, 0, 0}},
		{api.ErrCursor, []uint64{1, 0, 0, 0, 0, 0}},
		{api.ErrCursor, []uint64{1<<32 + 2, 0, 0, 0, 0, 0}},
		{api.OK, []uint64{2, mostSteps, 0, 0, 0, 0}},
		{api.ErrCursor, []uint64{2, mostSteps + 1, 0, 0, 0, 0}},
		{api.ErrCursor, []uint64{2, 1<<64 - 1, 0, 0, 0, 0}},
		{api.OK, []uint64{2, 5, 5, 0, 0, 0}},
		{api.ErrCursor, []uint64{2, 5, 6, 0, 0, 0}},
		{api.OK, []uint64{2, 5, 4, 8, 8, 0}},
		{api.ErrCursor, []uint64{2, 5, 4, 9, 8, 0}},
		{api.ErrCursor, []uint64{2, 5, 4, 7, 8, 0}},
		{api.ErrCursor, []uint64{2, 5, 5, 1, 0, 0}},
		{api.OK, []uint64{2, 5, 3, 0, 0, 2, 0, 1}},
		{api.ErrCursor, []uint64{2, 5, 4, 0, 0, 2, 0, 1}},
		{api.ErrCursor, []uint64{2, 5, 3, 0, 0, 2, 1, 0}},
		{api.ErrCursor, []uint64{2, 5, 3, 0, 0, 2, 1, 1}},
		{api.ErrCursor, []uint64{2, 5, 3, 0, 0, 1, 0, 1}},
		{api.ErrCursor, []uint64{2, 5, 3, 0, 0, 3, 0, 1}},
		{api.ErrCursor, []uint64{2, 5, 3, 0, 0, 1<<61 + 1, 0}},
		{api.ErrCursor, []uint64{2, 5, 3, 0, 0, 1, 2}},
		{api.ErrCursor, []uint64{2, 5, 3, 0, 0, 1, 1 << 32}},
		{api.OK, []uint64{2, 1, 0, 0, 0, 1, 0}},
		{api.ErrCursor, []uint64{2, 1, 0, 0, 0, 1, 1}},
		{api.ErrCursor, []uint64{2, 0, 0, 0, 0, 1, 0}},
	} {
		var p []byte
		for _, n := range c.numbers {
			p = layLong(p, n)
		}
		s, e := Load(d, p)
		if e != c.e || (s != nil) != (e == api.OK) {
			t.Errorf("%d: error %d, want %d", c.numbers, e, c.e)
		}
		if e == api.OK && !slices.Equal(s.Save(), p) {
			t.Errorf("%d: saved as %x", c.numbers, s.Save())
		}
	}
}
