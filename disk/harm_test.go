package disk_test

import (
	"math"
	"testing"

	"granary/api"
	"granary/disk"
)

// TestFail: a disk that has failed answers nothing, and forgets what waits (P4.5).
func TestFail(t *testing.T) {
	d := made(t, 2, 8)
	write(t, d, 0, 'a')
	flush(t, d)
	write(t, d, 1, 'b')
	d.Lose(1)
	if d.Failed() {
		t.Error("failed ahead of Fail")
	}
	for range 2 {
		d.Fail()
		if !d.Failed() {
			t.Error("not failed behind Fail")
		}
		waits(t, d)
		readsNone(t, d, 0, api.ErrFailed)
		readsNone(t, d, 1, api.ErrFailed)
		readsNone(t, d, 2, api.ErrArg)
		readsNone(t, d, -1, api.ErrArg)
		want(t, "Flush", d.Flush(), api.ErrFailed)
		want(t, "Write", d.Write(0, full(8, 'c')), api.ErrFailed)
		waits(t, d)
		counts(t, d, 1)
		stands(t, d, 0, full(8, 'a'))
		stands(t, d, 1, full(8, 0))
		hurt(t, d, 1)
		if d.Sectors() != 2 || d.Size() != 8 {
			t.Errorf("%d sectors of %d", d.Sectors(), d.Size())
		}
	}
}

// TestReplace: another disk, of one that has failed and of one that has not (P4.5).
func TestReplace(t *testing.T) {
	for _, fails := range []bool{true, false} {
		d := made(t, 3, 8)
		write(t, d, 0, 'a')
		write(t, d, 1, 'b')
		flush(t, d)
		d.Turn(0, 0, 1)
		d.Lose(1)
		write(t, d, 2, 'c')
		if fails {
			d.Fail()
		}
		d.Replace()
		alike(t, "behind Replace", d, made(t, 3, 8), true)
		if d.Failed() {
			t.Error("failed behind Replace")
		}
		for at := range 3 {
			readsFull(t, d, at, 0)
			stands(t, d, at, full(8, 0))
		}
		hurt(t, d)
		waits(t, d)
		counts(t, d, 2)
		write(t, d, 2, 'd')
		readsFull(t, d, 2, 'd')
		flush(t, d)
		counts(t, d, 3)
		want(t, "Lose", d.Lose(1), api.OK)
	}
}

// TestLose: the stable sector can not be read until it is written anew; what waits can (P4.6).
func TestLose(t *testing.T) {
	d := made(t, 3, 8)
	write(t, d, 1, 'a')
	flush(t, d)
	want(t, "Lose", d.Lose(1), api.OK)
	readsNone(t, d, 1, api.ErrLost)
	readsFull(t, d, 0, 0)
	stands(t, d, 1, full(8, 'a'))
	hurt(t, d, 1)
	write(t, d, 1, 'b')
	readsFull(t, d, 1, 'b')
	stands(t, d, 1, full(8, 'a'))
	hurt(t, d, 1)
	waits(t, d, "1b")
	d.Crash(nil)
	readsNone(t, d, 1, api.ErrLost)
	hurt(t, d, 1)
	write(t, d, 1, 'c')
	flush(t, d)
	readsFull(t, d, 1, 'c')
	hurt(t, d)
	write(t, d, 1, 'd')
	want(t, "Lose", d.Lose(1), api.OK)
	readsFull(t, d, 1, 'd')
	waits(t, d, "1d")
	d.Crash([]int{0})
	readsFull(t, d, 1, 'd')
	hurt(t, d)
}

// TestTurnOneBit: each bit of a sector, counted from the lowest of the first byte on (P4.6).
func TestTurnOneBit(t *testing.T) {
	for _, size := range []int{8, 9, 128, 512} {
		for bit := range 8 * size {
			d := made(t, 2, size)
			write(t, d, 1, 0x5a)
			flush(t, d)
			want(t, "Turn", d.Turn(1, bit, 1), api.OK)
			data := full(size, 0x5a)
			data[bit/8] ^= 1 << (bit % 8)
			reads(t, d, 1, data)
			stands(t, d, 1, data)
			readsFull(t, d, 0, 0)
			hurt(t, d, 1)
		}
	}
}

// TestTurnMasks: masks of all kinds at all bits, partly or wholly behind the last one (P4.6).
func TestTurnMasks(t *testing.T) {
	const size = 8
	masks := []uint32{0, math.MaxUint32, 0xaaaaaaaa, 0x80000001}
	for i := range 32 {
		masks = append(masks, 1<<i, math.MaxUint32<<i)
	}
	for bit := -2; bit <= 8*size+1; bit++ {
		for _, mask := range masks {
			d := made(t, 1, size)
			data, turns := make([]byte, size), 0
			for i := range 32 {
				if place := bit + i; bit >= 0 && bit < 8*size && mask>>i&1 == 1 && place < 8*size {
					data[place/8] |= 1 << (place % 8)
					turns++
				}
			}
			if turns == 0 {
				want(t, "Turn", d.Turn(0, bit, mask), api.ErrArg)
				hurt(t, d)
			} else {
				want(t, "Turn", d.Turn(0, bit, mask), api.OK)
				hurt(t, d, 0)
			}
			reads(t, d, 0, data)
			stands(t, d, 0, data)
		}
	}
}

// TestTurnAndWrites: what waits is not touched, and heals when it becomes stable (P4.6).
func TestTurnAndWrites(t *testing.T) {
	d := made(t, 2, 8)
	write(t, d, 0, 'a')
	want(t, "Turn", d.Turn(0, 0, 1), api.OK)
	readsFull(t, d, 0, 'a')
	waits(t, d, "0a")
	stands(t, d, 0, append([]byte{1}, make([]byte, 7)...))
	d.Crash(nil)
	reads(t, d, 0, append([]byte{1}, make([]byte, 7)...))
	hurt(t, d, 0)
	write(t, d, 1, 'b')
	flush(t, d)
	hurt(t, d, 0)
	write(t, d, 0, 'c')
	hurt(t, d, 0)
	flush(t, d)
	readsFull(t, d, 0, 'c')
	hurt(t, d)
}

// TestInjuredTwice: a sector has one injury, of either kind, and keeps it (P4.6, P4.12).
func TestInjuredTwice(t *testing.T) {
	for _, first := range []func(d *disk.Disk) api.Errno{
		func(d *disk.Disk) api.Errno { return d.Lose(1) },
		func(d *disk.Disk) api.Errno { return d.Turn(1, 0, 1) },
	} {
		d := made(t, 3, 8)
		write(t, d, 1, 'a')
		flush(t, d)
		want(t, "the first", first(d), api.OK)
		before := d.Copy()
		want(t, "Lose", d.Lose(1), api.ErrThere)
		want(t, "Turn", d.Turn(1, 0, 1), api.ErrThere)
		want(t, "Turn", d.Turn(1, 8, 1), api.ErrThere)
		want(t, "Turn", d.Turn(1, 64, 1), api.ErrArg)
		want(t, "Turn", d.Turn(1, 0, 0), api.ErrArg)
		alike(t, "behind what was refused", d, before, true)
		want(t, "another", d.Lose(2), api.OK)
		want(t, "another", d.Turn(0, 63, 1), api.OK)
		hurt(t, d, 0, 1, 2)
		write(t, d, 1, 'b')
		want(t, "while a write waits", first(d), api.ErrThere)
		flush(t, d)
		want(t, "behind the write", first(d), api.OK)
	}
}

// TestHarmRefused: which of several errors comes first (P4.6).
func TestHarmRefused(t *testing.T) {
	injured, failed := made(t, 2, 8), made(t, 2, 8)
	want(t, "Lose", injured.Lose(0), api.OK)
	want(t, "Lose", failed.Lose(0), api.OK)
	failed.Fail()
	for _, d := range []*disk.Disk{injured, failed} {
		before := d.Copy()
		for _, at := range []int{-1, 2, math.MinInt, math.MaxInt, 1 << 32} {
			want(t, "Lose", d.Lose(at), api.ErrArg)
			want(t, "Turn", d.Turn(at, 0, 1), api.ErrArg)
			want(t, "Turn", d.Turn(at, -1, 0), api.ErrArg)
			if b, ok := d.Stable(at); len(b) != 0 || ok {
				t.Errorf("Stable(%d): %x, %v", at, b, ok)
			}
		}
		for _, at := range []int{0, 1} {
			for _, bit := range []int{-1, -8, 64, 65, 1 << 32, math.MinInt, math.MaxInt} {
				want(t, "Turn", d.Turn(at, bit, math.MaxUint32), api.ErrArg)
			}
			want(t, "Turn", d.Turn(at, 0, 0), api.ErrArg)
			want(t, "Turn", d.Turn(at, 63, math.MaxUint32-1), api.ErrArg)
			want(t, "Turn", d.Turn(at, 33, 1<<31), api.ErrArg)
		}
		alike(t, "behind what was refused", d, before, true)
	}
	want(t, "Lose", injured.Lose(0), api.ErrThere)
	want(t, "Turn", injured.Turn(0, 63, 1), api.ErrThere)
	for at := range 2 {
		want(t, "Lose", failed.Lose(at), api.ErrFailed)
		want(t, "Turn", failed.Turn(at, 63, 1), api.ErrFailed)
	}
	hurt(t, failed, 0)
}

// TestInjured: the sectors come rising, whatever the order of their injuries (P4.6).
func TestInjured(t *testing.T) {
	d := made(t, 65536, 8)
	for _, at := range []int{65535, 7, 0, 40000} {
		want(t, "Lose", d.Lose(at), api.OK)
	}
	for _, at := range []int{8, 6, 39999} {
		want(t, "Turn", d.Turn(at, 5, 1), api.OK)
	}
	hurt(t, d, 0, 6, 7, 8, 39999, 40000, 65535)
}
