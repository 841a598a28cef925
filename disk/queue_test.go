package disk_test

import (
	"math"
	"testing"

	"granary/api"
	"granary/disk"
)

// TestWrite: a write waits behind the others, and is read ahead of what is stable (P4.2, P4.3).
func TestWrite(t *testing.T) {
	d := made(t, 3, 8)
	write(t, d, 1, 'a')
	readsFull(t, d, 1, 'a')
	readsFull(t, d, 0, 0)
	readsFull(t, d, 2, 0)
	stands(t, d, 1, full(8, 0))
	write(t, d, 2, 'b')
	write(t, d, 1, 'c')
	readsFull(t, d, 1, 'c')
	readsFull(t, d, 2, 'b')
	waits(t, d, "1a", "2b", "1c")
	counts(t, d, 0)
	flush(t, d)
	waits(t, d)
	counts(t, d, 3)
	for at, c := range []byte{0, 'c', 'b'} {
		readsFull(t, d, at, c)
		stands(t, d, at, full(8, c))
	}
	flush(t, d)
	counts(t, d, 3)
	write(t, d, 1, 'e')
	readsFull(t, d, 1, 'e')
	flush(t, d)
	counts(t, d, 4)
}

// TestWriteRefused: the first error of several, with nothing changed (P4.2).
func TestWriteRefused(t *testing.T) {
	whole, failed := made(t, 2, 8), made(t, 2, 8)
	failed.Fail()
	for _, d := range []*disk.Disk{whole, failed} {
		before := d.Copy()
		for _, at := range []int{-1, 2, 3, math.MinInt, math.MaxInt, 1 << 32} {
			for _, n := range []int{0, 7, 8, 9} {
				want(t, "Write", d.Write(at, make([]byte, n)), api.ErrArg)
			}
		}
		for _, n := range []int{0, 1, 7, 9, 16, 512, 513} {
			want(t, "Write", d.Write(1, make([]byte, n)), api.ErrSize)
		}
		want(t, "Write", d.Write(0, nil), api.ErrSize)
		alike(t, "behind what was refused", d, before, true)
	}
	want(t, "Write", failed.Write(0, full(8, 1)), api.ErrFailed)
	want(t, "Flush", failed.Flush(), api.ErrFailed)
	waits(t, failed)
	counts(t, failed, 0)
}

// TestLongest: data of all sizes of sectors, the greatest too, and one byte fewer or more (P4.2).
func TestLongest(t *testing.T) {
	dice := dice(12)
	for _, size := range []int{8, 9, 100, 511, 512} {
		d := made(t, 2, size)
		want(t, "Write", d.Write(0, make([]byte, size-1)), api.ErrSize)
		want(t, "Write", d.Write(0, make([]byte, size+1)), api.ErrSize)
		data := dice.bytes(size)
		want(t, "Write", d.Write(1, data), api.OK)
		reads(t, d, 1, data)
		flush(t, d)
		reads(t, d, 1, data)
		stands(t, d, 1, data)
		readsFull(t, d, 0, 0)
	}
}

// TestFullQueue: MaxQueue writes wait, one more is refused, behind the other errors (P4.2, P4.3).
func TestFullQueue(t *testing.T) {
	d := made(t, 300, 8)
	for i := range 4096 {
		want(t, "Write", d.Write(i%300, full(8, byte(i))), api.OK)
	}
	before := d.Copy()
	want(t, "Write", d.Write(0, full(8, 1)), api.ErrMany)
	want(t, "Write", d.Write(300, full(8, 1)), api.ErrArg)
	want(t, "Write", d.Write(-1, nil), api.ErrArg)
	want(t, "Write", d.Write(0, full(9, 1)), api.ErrSize)
	alike(t, "behind what was refused", d, before, true)
	queue := d.Queue()
	if len(queue) != 4096 {
		t.Fatalf("Queue: %d writes", len(queue))
	}
	for i, w := range queue {
		if w.At != i%300 || w.Data != string(full(8, byte(i))) {
			t.Fatalf("Queue: %d is %x", i, w)
		}
	}
	half := d.Copy()
	flush(t, d)
	counts(t, d, 4096)
	want(t, "Write", d.Write(0, full(8, 1)), api.OK)
	half.Crash([]int{4095, 4096, 0})
	counts(t, half, 2)
	readsFull(t, half, 195, 255)
	want(t, "Write", half.Write(0, full(8, 1)), api.OK)
	d.Fail()
	want(t, "Write", d.Write(0, full(8, 1)), api.ErrFailed)
}

// TestCrash: the writes whose numbers are told become stable, in the queue's order (P4.4).
func TestCrash(t *testing.T) {
	for _, c := range []struct {
		keep []int
		is   string // the bytes of the sectors 0, 1 and 2 behind the crash, - for zeros
		n    int
	}{
		{nil, "---", 0},
		{[]int{}, "---", 0},
		{[]int{0}, "a--", 1},
		{[]int{1}, "-b-", 1},
		{[]int{2}, "c--", 1},
		{[]int{3}, "--d", 1},
		{[]int{0, 2}, "c--", 2},
		{[]int{2, 0}, "c--", 2},
		{[]int{2, 0, 2, 0, 0}, "c--", 2},
		{[]int{3, 2, 1, 0}, "cbd", 4},
		{[]int{0, 1, 2, 3}, "cbd", 4},
		{[]int{1, 0, 1, 3, 3}, "abd", 3},
		{[]int{4}, "---", 0},
		{[]int{-1}, "---", 0},
		{[]int{math.MinInt, 4, 1, math.MaxInt, -4, 1 << 32}, "-b-", 1},
	} {
		d := made(t, 3, 8)
		for _, w := range []string{"0a", "1b", "0c", "2d"} {
			write(t, d, int(w[0]-'0'), w[1])
		}
		d.Crash(c.keep)
		for at := range 3 {
			b := c.is[at]
			if b == '-' {
				b = 0
			}
			readsFull(t, d, at, b)
			stands(t, d, at, full(8, b))
		}
		waits(t, d)
		counts(t, d, c.n)
	}
}

// TestCrashOfNothing: a queue that is empty, and that of a failed disk, whatever is to be kept (P4.4).
func TestCrashOfNothing(t *testing.T) {
	for _, keep := range [][]int{nil, {0}, {0, 1, 2}, {-1}} {
		d := made(t, 2, 8)
		write(t, d, 0, 'a')
		flush(t, d)
		d.Lose(1)
		before := d.Copy()
		d.Crash(keep)
		alike(t, "behind a crash of an empty queue", d, before, true)
		counts(t, d, 1)
		write(t, d, 1, 'b')
		d.Fail()
		before = d.Copy()
		d.Crash(keep)
		alike(t, "behind a crash of a failed disk", d, before, true)
		counts(t, d, 1)
		if !d.Failed() {
			t.Error("a crash mends no disk")
		}
	}
}
