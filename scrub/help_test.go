package scrub_test

import (
	"bytes"
	"slices"
	"testing"

	"granary/api"
	"granary/disk"
	"granary/scrub"
	"granary/stripe"
)

// small is the geometry of the chapter's examples.
var small = api.Geometry{K: 2, M: 1, Blocks: 3, Rows: 5}

// everyCount calls do with a geometry of each number of data and parity shards.
func everyCount(blocks, rows int, do func(g api.Geometry)) {
	for k := 1; k <= 4; k++ {
		for m := 0; m <= 4; m++ {
			do(api.Geometry{K: k, M: m, Blocks: blocks, Rows: rows})
		}
	}
}

// parts calls do with each part of the numbers below n.
func parts(n int, do func(part []int)) {
	for bits := range 1 << n {
		var part []int
		for i := range n {
			if bits>>i&1 == 1 {
				part = append(part, i)
			}
		}
		do(part)
	}
}

// newDisks is disks for a geometry.
func newDisks(t *testing.T, g api.Geometry) []*disk.Disk {
	t.Helper()
	var out []*disk.Disk
	for range g.K + g.M {
		d, e := disk.New(g.Rows, stripe.ShardBytes(g))
		want(t, "disk.New", e, api.OK)
		out = append(out, d)
	}
	return out
}

// opened is the device on the disks, where nothing can be wrong.
func opened(t *testing.T, g api.Geometry, disks []*disk.Disk) *stripe.Device {
	t.Helper()
	d, e := stripe.Open(g, disks)
	if e != api.OK || d == nil {
		t.Fatalf("Open(%+v): error %d", g, e)
	}
	return d
}

// made is a device on new disks, with the first blocks written and flushed, each in the row of its number.
func made(t *testing.T, g api.Geometry, written int) (*stripe.Device, []*disk.Disk) {
	t.Helper()
	disks := newDisks(t, g)
	d := opened(t, g, disks)
	for b := range written {
		want(t, "Write", d.Write(b, full(byte('a'+b))), api.OK)
	}
	want(t, "Flush", d.Flush(), api.OK)
	return d, disks
}

// copies is a copy of each disk.
func copies(disks []*disk.Disk) []*disk.Disk {
	var out []*disk.Disk
	for _, d := range disks {
		out = append(out, d.Copy())
	}
	return out
}

// untouched: the disks are as the others are, and have been flushed no more often.
func untouched(t *testing.T, name string, disks, others []*disk.Disk) {
	t.Helper()
	for i := range disks {
		if !disk.Same(disks[i], others[i]) || disks[i].Writes() != others[i].Writes() {
			t.Errorf("%s: the disk %d is another", name, i)
		}
	}
}

// full is a block of c.
func full(c byte) []byte { return bytes.Repeat([]byte{c}, api.BlockBytes) }

// want: the error, and no other.
func want(t *testing.T, name string, got, e api.Errno) {
	t.Helper()
	if got != e {
		t.Errorf("%s: error %d, want %d", name, got, e)
	}
}

// reads: the block answers these bytes.
func reads(t *testing.T, d *stripe.Device, b int, p []byte) {
	t.Helper()
	if got, e := d.Read(b); e != api.OK || !bytes.Equal(got, p) {
		t.Errorf("Read(%d): %x, error %d, want %x", b, got, e, p)
	}
}

// looks: the block's shards are so, told by a letter each: Right, Wrong, Failed.
func looks(t *testing.T, d *stripe.Device, b int, shards string) {
	t.Helper()
	states, e := d.Look(b)
	got := make([]byte, len(states))
	for i, state := range states {
		got[i] = "RWF"[state]
	}
	if e != api.OK || string(got) != shards {
		t.Errorf("Look(%d): %s, error %d, want %s", b, got, e, shards)
	}
}

// sameScan: all fields are the same.
func sameScan(a, b api.Scan) bool {
	return a.Block == b.Block && a.Kind == b.Kind && slices.Equal(a.Wrong, b.Wrong) && a.Err == b.Err
}

// sameTally: all fields are the same.
func sameTally(a, b api.Tally) bool {
	gone := slices.Equal(a.Gone, b.Gone)
	a.Gone, b.Gone = nil, nil
	return gone && a.Steps == b.Steps && a.Passes == b.Passes && a.Right == b.Right && a.Wrong == b.Wrong && a.Healed == b.Healed
}

// finds: the next step finds just that.
func finds(t *testing.T, s *scrub.Scrub, found api.Scan) {
	t.Helper()
	if got, e := s.Step(); e != api.OK || !sameScan(got, found) {
		t.Errorf("Step: %+v, error %d, want %+v", got, e, found)
	}
}

// stands: the scrubber is at that block, and has that tally.
func stands(t *testing.T, s *scrub.Scrub, at int, tally api.Tally) {
	t.Helper()
	if s.At() != at || !sameTally(s.Tally(), tally) {
		t.Errorf("At %d, Tally %+v, want %d, %+v", s.At(), s.Tally(), at, tally)
	}
}

// loaded is the scrubber of a Save that may be loaded.
func loaded(t *testing.T, d *stripe.Device, p []byte) *scrub.Scrub {
	t.Helper()
	s, e := scrub.Load(d, p)
	if e != api.OK || s == nil {
		t.Fatalf("Load of %x: error %d", p, e)
	}
	return s
}

// refused: no scrubber, and that error.
func refused(t *testing.T, name string, d *stripe.Device, p []byte, e api.Errno) {
	t.Helper()
	if s, why := scrub.Load(d, p); s != nil || why != e {
		t.Errorf("Load, %s: %v, error %d, want error %d", name, s, why, e)
	}
}

// passes makes so many steps, whatever they find.
func passes(t *testing.T, s *scrub.Scrub, steps int) {
	t.Helper()
	for range steps {
		_, e := s.Step()
		want(t, "Step", e, api.OK)
	}
}

// dice is numbers that look thrown, the same ones each time.
type dice uint64

// below is the next number, of 0 to n - 1.
func (d *dice) below(n int) int {
	*d = *d*6364136223846793005 + 1442695040888963407
	return int(uint64(*d) >> 33 % uint64(n))
}

// part is some of the numbers below n, none and all among them.
func (d *dice) part(n int) []int {
	var out []int
	share := d.below(5)
	for i := range n {
		if d.below(4) < share {
			out = append(out, i)
		}
	}
	return out
}

// spoil writes over all of a list, its spare room too.
func spoil[T any](l []T, with T) {
	l = l[:cap(l)]
	for i := range l {
		l[i] = with
	}
}
