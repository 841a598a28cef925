package disk_test

import (
	"bytes"
	"slices"
	"testing"

	"granary/api"
	"granary/disk"
)

// TestWriteKeepsNothing: what is handed to Write is neither changed nor kept (rule 3).
func TestWriteKeepsNothing(t *testing.T) {
	for _, size := range []int{8, 100, 512} {
		d := made(t, 2, size)
		data := roomy(full(size, 'a'))
		want(t, "Write", d.Write(1, data), api.OK)
		if !isRoomy(data, full(size, 'a')) {
			t.Error("Write changed what it was handed")
		}
		spoil(data)
		readsFull(t, d, 1, 'a')
		waits(t, d, "1a")
		flush(t, d)
		spoil(data)
		readsFull(t, d, 1, 'a')
		stands(t, d, 1, full(size, 'a'))
		refused := roomy(full(size+1, 'b'))
		want(t, "Write", d.Write(0, refused), api.ErrSize)
		if !isRoomy(refused, full(size+1, 'b')) {
			t.Error("Write changed what it refused")
		}
	}
}

// TestCrashKeepsNothing: nor is what is handed to Crash (rule 3).
func TestCrashKeepsNothing(t *testing.T) {
	d := made(t, 2, 8)
	keep := []int{1, 5, 0, 1, -3, 77, 78}
	before := slices.Clone(keep)
	write(t, d, 0, 'a')
	write(t, d, 1, 'b')
	d.Crash(keep[:5])
	if !slices.Equal(keep, before) {
		t.Errorf("Crash changed what it was handed: %v", keep)
	}
	readsFull(t, d, 0, 'a')
	readsFull(t, d, 1, 'b')
}

// TestAnswersAreNew: whoever writes over an answer, its spare room too, changes nothing (rule 3).
func TestAnswersAreNew(t *testing.T) {
	for _, size := range []int{8, 100, 512} {
		d := made(t, 3, size)
		write(t, d, 0, 'a')
		flush(t, d)
		d.Lose(2)
		d.Turn(1, 0, 1)
		write(t, d, 2, 'b')
		write(t, d, 0, 'c')
		before := d.Copy()
		for at := range 3 {
			first, _ := d.Read(at)
			second, _ := d.Read(at)
			third, _ := d.Stable(at)
			fourth, _ := d.Stable(at)
			kept, stable := slices.Clone(second), slices.Clone(fourth)
			spoil(first)
			spoil(third)
			if !bytes.Equal(second, kept) || !bytes.Equal(fourth, stable) {
				t.Errorf("two answers of the sector %d share bytes", at)
			}
			spoil(second)
			spoil(fourth)
		}
		queue, injured := d.Queue(), d.Injured()
		other, others := d.Queue(), d.Injured()
		queue = queue[:cap(queue)]
		for i := range queue {
			queue[i] = api.Sector{At: 1, Data: "x"}
		}
		injured = injured[:cap(injured)]
		for i := range injured {
			injured[i] = 0
		}
		if other[0].At != 2 || other[1].At != 0 || !slices.Equal(others, []int{1, 2}) {
			t.Error("two answers share their elements")
		}
		alike(t, "behind what was written over answers", d, before, true)
		waits(t, d, "2b", "0c")
		hurt(t, d, 1, 2)
	}
}

// TestCopyApart: neither a copy nor its original feels what is done to the other (P4.7).
func TestCopyApart(t *testing.T) {
	acts := []act{
		{kind: 'W', at: 0, data: full(8, 'x')},
		{kind: 'W', at: 2, data: full(8, 'y')},
		{kind: 'L'},
		{kind: 'C'},
		{kind: 'C', keep: []int{1}},
		{kind: 'A'},
		{kind: 'E'},
		{kind: 'O', at: 2},
		{kind: 'T', at: 2, bit: 0, mask: 255},
	}
	for _, c := range acts {
		for _, changeCopy := range []bool{true, false} {
			d, a := made(t, 3, 8), newAccount(3, 8)
			for _, first := range []act{
				{kind: 'W', at: 0, data: full(8, 'a')}, {kind: 'W', at: 1, data: full(8, 'b')}, {kind: 'L'},
				{kind: 'O', at: 1}, {kind: 'W', at: 1, data: full(8, 'c')}, {kind: 'W', at: 2, data: full(8, 'd')}, {kind: 'W', at: 0, data: full(8, 'e')},
			} {
				first.on(d)
				first.in(a)
			}
			changed, left := d.Copy(), d
			if !changeCopy {
				changed, left = d, d.Copy()
			}
			b := a.copy()
			c.on(changed)
			c.in(b)
			agree(t, left, a)
			agree(t, changed, b)
			alike(t, "the one that was changed and the other", changed, left, false)
		}
	}
}

// TestCopiesWriteApart: writes that wait behind a copy's, and behind its original's, are each one's own (P4.7).
func TestCopiesWriteApart(t *testing.T) {
	for n := range 9 {
		d := made(t, 2, 8)
		for range n {
			write(t, d, 0, 'a')
		}
		first, second := d.Copy(), d.Copy()
		for i, each := range []*disk.Disk{d, first, second} {
			write(t, each, 1, byte('x'+i))
		}
		for i, each := range []*disk.Disk{d, first, second} {
			readsFull(t, each, 1, byte('x'+i))
			flush(t, each)
			readsFull(t, each, 1, byte('x'+i))
			counts(t, each, n+1)
		}
	}
}
