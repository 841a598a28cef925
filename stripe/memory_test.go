package stripe_test

import (
	"bytes"
	"slices"
	"testing"

	"granary/api"
	"granary/disk"
	"granary/stripe"
)

// TestPutShardShares: the data is neither changed nor kept, and each answer is new (rule 3).
func TestPutShardShares(t *testing.T) {
	for k := 1; k <= 4; k++ {
		data := roomy(full('d')[:384/k])
		s := api.Shard{Block: 1, Sequence: 2, Index: 0, K: k, M: 3, Data: data}
		good := schoolPut(s)
		first, _ := stripe.PutShard(s)
		second, _ := stripe.PutShard(s)
		spoil(first)
		if !bytes.Equal(second, good) {
			t.Error("two answers share bytes")
		}
		spoil(second)
		if !isRoomy(data, full('d')[:384/k]) {
			t.Error("the data was changed")
		}
		third, _ := stripe.PutShard(s)
		spoil(data)
		if !bytes.Equal(third, good) {
			t.Error("the answer shares bytes with the data")
		}
		s.Data = roomy(full('d')[:384/k-1])
		stripe.PutShard(s)
		if !isRoomy(s.Data, full('d')[:384/k-1]) {
			t.Error("data that is refused was changed")
		}
	}
}

// TestGetShardShares: the bytes are neither changed nor kept, and each answer is new (rule 3).
func TestGetShardShares(t *testing.T) {
	for k := 1; k <= 4; k++ {
		good := schoolPut(api.Shard{Block: 1, Sequence: 2, Index: 0, K: k, M: 3, Data: full('d')[:384/k]})
		in := roomy(good)
		first, _ := stripe.GetShard(in)
		second, _ := stripe.GetShard(in)
		spoil(first.Data)
		if !bytes.Equal(second.Data, full('d')[:384/k]) {
			t.Error("two answers share bytes")
		}
		if !isRoomy(in, good) {
			t.Error("the bytes were changed")
		}
		spoil(in)
		if !bytes.Equal(second.Data, full('d')[:384/k]) {
			t.Error("the answer shares bytes with what was handed in")
		}
		for _, p := range [][]byte{good[:len(good)-1], good[:30], bytes.Repeat([]byte{1}, len(good))} {
			in := roomy(p)
			stripe.GetShard(in)
			if !isRoomy(in, p) {
				t.Error("bytes that are refused were changed")
			}
		}
	}
}

// TestOpenKeepsNoList: the list of disks is neither changed nor kept, nor handed out (rule 3).
func TestOpenKeepsNoList(t *testing.T) {
	disks := newDisks(t, small, 0)
	other := newDisks(t, small, 0)
	list := append(slices.Clone(disks), other[0], nil)
	d := opened(t, small, list[:3])
	if !slices.Equal(list, append(slices.Clone(disks), other[0], nil)) {
		t.Error("the list was changed")
	}
	copy(list, other)
	told := d.Disks()
	told = told[:cap(told)]
	copy(told, other)
	write(t, d, 0, full('a'))
	reads(t, d, 0, full('a'))
	if !slices.Equal(d.Disks(), disks) || len(disks[0].Queue()) != 1 || len(other[0].Queue()) != 0 {
		t.Error("the device uses another disk")
	}
	for _, g := range []api.Geometry{{}, {K: 2, M: 1, Blocks: 3, Rows: 6}, {K: 2, M: 2, Blocks: 3, Rows: 5}} {
		list := append(slices.Clone(disks), nil)
		stripe.Open(g, list[:3])
		if !slices.Equal(list, append(slices.Clone(disks), nil)) {
			t.Error("a list that is refused was changed")
		}
	}
}

// TestDisksAreUsed: the disks that are handed in are the device's own, not copies (rule 3).
func TestDisksAreUsed(t *testing.T) {
	d, disks := made(t, small)
	write(t, d, 0, full('a'))
	for _, each := range d.Disks() {
		each.Crash([]int{0})
	}
	for i := range disks {
		if disks[i].Writes() != 1 {
			t.Errorf("the disk %d is another", i)
		}
	}
}

// TestWriteKeepsNothing: what is handed to Write is neither changed nor kept (rule 3).
func TestWriteKeepsNothing(t *testing.T) {
	everyCount(2, 4, func(g api.Geometry) {
		d, disks := made(t, g)
		p := roomy(full('a'))
		write(t, d, 1, p)
		if !isRoomy(p, full('a')) {
			t.Error("Write changed what it was handed")
		}
		spoil(p)
		reads(t, d, 1, full('a'))
		flush(t, d)
		reads(t, opened(t, g, disks), 1, full('a'))
		for _, n := range []int{0, 383} {
			p := roomy(full('b')[:n])
			want(t, "Write", d.Write(1, p), api.ErrLong)
			if !isRoomy(p, full('b')[:n]) {
				t.Error("Write changed what it refused")
			}
		}
	})
}

// TestAnswersAreNew: whoever writes over an answer, its spare room too, changes nothing (rule 3).
func TestAnswersAreNew(t *testing.T) {
	everyCount(3, 5, func(g api.Geometry) {
		d, disks := made(t, g)
		write(t, d, 1, full('a'))
		write(t, d, 2, full('b'))
		flush(t, d)
		if g.M > 0 {
			disks[0].Fail()
		}
		before := copies(disks)
		for b, p := range [][]byte{full(0), full('a'), full('b')} {
			first, _ := d.Read(b)
			second, _ := d.Read(b)
			spoil(first)
			if !bytes.Equal(second, p) {
				t.Errorf("two answers of the block %d share bytes", b)
			}
			spoil(second)
			reads(t, d, b, p)
		}
		first, _ := d.Look(1)
		second, _ := d.Look(1)
		kept := slices.Clone(second)
		fillInts(first)
		if !slices.Equal(second, kept) {
			t.Error("two answers of Look share their elements")
		}
		for i := range g.K + g.M {
			disks[i].Fail()
			before[i].Fail()
		}
		lost, others := d.Lost(), d.Lost()
		fillInts(lost)
		if !slices.Equal(others, []int{1, 2}) {
			t.Error("two answers of Lost share their elements")
		}
		loses(t, d, 1, 2)
		untouched(t, "behind what was written over answers", disks, before)
	})
}

// fillInts writes over all of l, its spare room too.
func fillInts(l []int) {
	l = l[:cap(l)]
	for i := range l {
		l[i] = -9
	}
}

// TestAskingChangesNothing: calls that only tell leave the disks and the device as they were.
func TestAskingChangesNothing(t *testing.T) {
	d, disks := made(t, small)
	write(t, d, 0, full('a'))
	flush(t, d)
	write(t, d, 0, full('b'))
	disks[1].Lose(0)
	before := copies(disks)
	for range 3 {
		for b := -1; b < 4; b++ {
			d.Read(b)
			d.Look(b)
			d.RowOf(b)
		}
		d.Lost()
		d.Disks()
		d.Geometry()
		stands(t, d, 3, 3)
		lies(t, d, 0, 1)
		untouched(t, "asked", disks, before)
	}
	for i := range disks {
		if disks[i].Writes() != before[i].Writes() || len(disks[i].Queue()) != 1 {
			t.Errorf("the disk %d was flushed", i)
		}
	}
}

// TestTwoDevices: devices share nothing with one another.
func TestTwoDevices(t *testing.T) {
	a, disks := made(t, small)
	b := opened(t, small, copies(disks))
	write(t, a, 0, full('a'))
	reads(t, b, 0, full(0))
	stands(t, b, 5, 1)
	write(t, b, 0, full('b'))
	reads(t, a, 0, full('a'))
	if disk.Same(a.Disks()[0], b.Disks()[0]) {
		t.Error("the disks are alike")
	}
}
