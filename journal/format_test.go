package journal_test

import (
	"math"
	"slices"
	"testing"

	"granary/api"
	"granary/journal"
)

// long is a plate that says that it has another number of blocks than it has.
type long struct {
	*plate
	blocks int
}

func (d long) Len() int { return d.blocks }

// bounds is first and count, on a device of 12 blocks, and what becomes of them.
var bounds = []struct {
	first, count int
	e            api.Errno
}{
	{0, 12, api.OK}, {0, 6, api.OK}, {6, 6, api.OK}, {5, 6, api.OK}, {1, 11, api.OK}, {4, 7, api.OK},
	{0, 5, api.ErrArg}, {0, 0, api.ErrArg}, {0, -1, api.ErrArg}, {0, -6, api.ErrArg}, {12, 0, api.ErrArg}, {7, 5, api.ErrArg},
	{-1, 6, api.ErrArg}, {-1, 13, api.ErrArg}, {-6, 12, api.ErrArg}, {-12, 24, api.ErrArg},
	{0, 13, api.ErrArg}, {7, 6, api.ErrArg}, {1, 12, api.ErrArg}, {12, 6, api.ErrArg}, {13, 6, api.ErrArg},
	{math.MaxInt, 6, api.ErrArg}, {6, math.MaxInt, api.ErrArg}, {math.MaxInt, math.MaxInt, api.ErrArg}, {math.MaxInt - 5, 6, api.ErrArg},
	{math.MinInt, 6, api.ErrArg}, {6, math.MinInt, api.ErrArg}, {math.MinInt, math.MinInt, api.ErrArg}, {math.MinInt, math.MaxInt, api.ErrArg},
	{math.MaxInt, math.MinInt, api.ErrArg}, {math.MaxInt/2 + 1, math.MaxInt/2 + 1, api.ErrArg},
}

// TestBounds: a journal lies within its device (P8.3 to P8.5).
func TestBounds(t *testing.T) {
	for _, c := range bounds {
		d := newPlate(12)
		want(t, "Format", journal.Format(d, c.first, c.count), c.e)
		if _, n := d.heard(); c.e != api.OK && n > 0 {
			t.Errorf("Format(%d, %d): %d calls", c.first, c.count, n)
		}
		if c.e != api.OK {
			refused(t, "bounds", d, c.first, c.count, c.e)
		} else {
			j, told := opened(t, d, c.first, c.count)
			stands(t, j, 0, 0, 0, c.count-2, 2)
			if len(told) != 0 {
				t.Errorf("%d transactions", len(told))
			}
		}
		if _, n := d.heard(); c.e != api.OK && n > 0 {
			t.Errorf("Open(%d, %d): %d calls", c.first, c.count, n)
		}
		want(t, "Format of nil", journal.Format(nil, c.first, c.count), api.ErrNone)
		refused(t, "nil", nil, c.first, c.count, api.ErrNone)
	}
}

// TestOddLengths: a device of no blocks, of fewer than none, of as many as an int can tell (P8.4, P8.5).
func TestOddLengths(t *testing.T) {
	for _, size := range []int{0, -1, 5, math.MinInt, math.MinInt + 1} {
		for _, c := range bounds {
			d := long{newPlate(12), size}
			want(t, "Format", journal.Format(d, c.first, c.count), api.ErrArg)
			refused(t, "length", d, c.first, c.count, api.ErrArg)
		}
	}
	d := long{newPlate(12), math.MaxInt}
	want(t, "Format", journal.Format(d, 6, 6), api.OK)
	want(t, "Format", journal.Format(d, math.MaxInt-4, 6), api.ErrArg)
	j, _ := opened(t, d, 6, math.MaxInt-6)
	stands(t, j, 0, 0, 0, math.MaxInt-8, 2)
	appends(t, j, puts(1, 1), 1)
	stands(t, j, 1, 0, 0, math.MaxInt-10, 2)
}

// formatCalls is what Format writes, in order.
func formatCalls(first, count int) []call {
	var out []call
	for b := first + 2; b < first+count; b++ {
		out = append(out, call{'w', b, string(make([]byte, api.BlockBytes))})
	}
	return append(out,
		call{kind: 'f'},
		call{'w', first, string(superBlock(api.LogSuper{Generation: 1, Boot: 1}))},
		call{'w', first + 1, string(superBlock(api.LogSuper{Generation: 2, Boot: 1}))},
		call{kind: 'f'})
}

// TestFormatWrites: the ring, a flush, both superblocks, a flush; nothing else (P8.3, P8.4).
func TestFormatWrites(t *testing.T) {
	for _, c := range bounds {
		if c.e != api.OK {
			continue
		}
		d := newPlate(12)
		for b := range d.blocks {
			d.lay(b, []byte{byte(b)})
		}
		want(t, "Format", journal.Format(d, c.first, c.count), api.OK)
		l := formatCalls(c.first, c.count)
		if got, n := d.heard(); !slices.Equal(got, l) || n != len(l) {
			t.Errorf("Format(%d, %d): %d calls: %x", c.first, c.count, n, got)
		}
		for b := range d.blocks {
			if outside := b < c.first || b >= c.first+c.count; outside != slices.Equal(d.now(b), []byte{byte(b)}) {
				t.Errorf("Format(%d, %d): the block %d is %x", c.first, c.count, b, d.now(b))
			}
		}
	}
}

// TestFormatFails: the first error of the device ends it (P8.4).
func TestFormatFails(t *testing.T) {
	l := formatCalls(1, 8)
	for at := range l {
		d := newPlate(12)
		d.until = at + 1
		want(t, "Format", journal.Format(d, 1, 8), errBroken)
		if got, _ := d.heard(); !slices.Equal(got, l[:at+1]) {
			t.Errorf("Format, the call %d fails: %d calls", at, len(got))
		}
	}
}

// TestFormatAnew: what was there is no more once Format was OK, also behind a crash (P8.4).
func TestFormatAnew(t *testing.T) {
	d := formatted(t, 8, 0, 8)
	j, _ := opened(t, d, 0, 8)
	appends(t, j, puts(1, 1), 1)
	want(t, "Sync", j.Sync(), api.OK)
	want(t, "Format", journal.Format(d, 0, 8), api.OK)
	d.crash(new(dice))
	j, told := opened(t, d, 0, 8)
	stands(t, j, 0, 0, 0, 6, 2)
	if len(told) != 0 {
		t.Errorf("%d transactions are left", len(told))
	}
}
