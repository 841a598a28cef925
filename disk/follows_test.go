package disk_test

import (
	"bytes"
	"slices"
	"testing"

	"granary/api"
	"granary/disk"
)

// busy is a disk with some stable bytes, injuries and writes that wait.
func busy(t *testing.T, dice *dice) *disk.Disk {
	t.Helper()
	d := made(t, 4, 9)
	for range 12 {
		switch dice.below(6) {
		case 0:
			flush(t, d)
		case 1:
			d.Lose(dice.below(4))
		case 2:
			d.Turn(dice.below(4), dice.below(72), 1)
		default:
			want(t, "Write", d.Write(dice.below(4), dice.bytes(9)), api.OK)
		}
	}
	return d
}

// parts calls do with each part of the numbers below n.
func parts(n int, do func(keep []int)) {
	for bits := range 1 << n {
		var keep []int
		for i := range n {
			if bits>>i&1 == 1 {
				keep = append(keep, i)
			}
		}
		do(keep)
	}
}

// TestBarrier: behind every crash a sector has what was flushed, or one of the writes that waited; the last one that is kept (P4.8).
func TestBarrier(t *testing.T) {
	dice := dice(8)
	for range 60 {
		d := busy(t, &dice)
		queue := d.Queue()
		parts(len(queue), func(keep []int) {
			after := d.Copy()
			after.Crash(keep)
			for at := range 4 {
				data, _ := d.Stable(at)
				for _, i := range keep {
					if queue[i].At == at {
						data = []byte(queue[i].Data)
					}
				}
				stands(t, after, at, data)
			}
		})
	}
}

// TestFlushedStays: what was flushed outlasts any number of crashes (P4.8).
func TestFlushedStays(t *testing.T) {
	dice := dice(81)
	d := made(t, 5, 16)
	for at := range 5 {
		write(t, d, at, byte('a'+at))
	}
	flush(t, d)
	for range 200 {
		for range dice.below(5) {
			want(t, "Write", d.Write(dice.below(2), dice.bytes(16)), api.OK)
		}
		d.Crash([]int{dice.below(5), dice.below(5)})
		for at := 2; at < 5; at++ {
			readsFull(t, d, at, byte('a'+at))
		}
	}
}

// TestReadAheadOfCrash: what was read as a waiting write is there behind the crash, or what was stable, when one write waits for each sector (P4.8).
func TestReadAheadOfCrash(t *testing.T) {
	d := made(t, 3, 8)
	for at := range 3 {
		write(t, d, at, byte('a'+at))
	}
	flush(t, d)
	for at := range 3 {
		write(t, d, at, byte('A'+at))
		readsFull(t, d, at, byte('A'+at))
	}
	parts(3, func(keep []int) {
		after := d.Copy()
		after.Crash(keep)
		for at := range 3 {
			c := byte('a' + at)
			if slices.Contains(keep, at) {
				c = byte('A' + at)
			}
			readsFull(t, after, at, c)
		}
	})
}

// TestOwnWrites: a write is read until the next one, whatever else happens to the disk (P4.9).
func TestOwnWrites(t *testing.T) {
	dice := dice(9)
	for range 200 {
		d := busy(t, &dice)
		at := dice.below(4)
		data := dice.bytes(9)
		want(t, "Write", d.Write(at, data), api.OK)
		for range 10 {
			other := (at + 1 + dice.below(3)) % 4
			switch dice.below(5) {
			case 0:
				flush(t, d)
			case 1:
				d.Lose(other)
			case 2:
				d.Turn(other, dice.below(72), 1)
			default:
				want(t, "Write", d.Write(other, dice.bytes(9)), api.OK)
			}
			reads(t, d, at, data)
		}
	}
}

// TestOwnWriteOfInjured: also where the stable sector is injured while the write waits, or was (P4.9).
func TestOwnWriteOfInjured(t *testing.T) {
	for _, lose := range []bool{true, false} {
		d := made(t, 1, 8)
		injure := func() {
			if lose {
				want(t, "Lose", d.Lose(0), api.OK)
			} else {
				want(t, "Turn", d.Turn(0, 0, 255), api.OK)
			}
		}
		injure()
		write(t, d, 0, 'a')
		readsFull(t, d, 0, 'a')
		flush(t, d)
		readsFull(t, d, 0, 'a')
		write(t, d, 0, 'b')
		injure()
		readsFull(t, d, 0, 'b')
		flush(t, d)
		readsFull(t, d, 0, 'b')
	}
}

// TestAllOrNothing: a crash that keeps all is a flush, one that keeps none leaves what was stable (P4.10).
func TestAllOrNothing(t *testing.T) {
	dice := dice(10)
	for range 300 {
		d := busy(t, &dice)
		var all []int
		for i := range d.Queue() {
			all = append([]int{i}, all...)
		}
		crashed, flushed, none := d.Copy(), d.Copy(), d.Copy()
		crashed.Crash(all)
		flush(t, flushed)
		alike(t, "all kept", crashed, flushed, true)
		counts(t, crashed, flushed.Writes())
		none.Crash(nil)
		waits(t, none)
		counts(t, none, d.Writes())
		hurt(t, none, d.Injured()...)
		for at := range 4 {
			before, _ := d.Stable(at)
			stands(t, none, at, before)
		}
	}
}

// TestTwice: a second crash changes nothing, whatever it would keep (P4.11).
func TestTwice(t *testing.T) {
	dice := dice(11)
	for range 300 {
		d := busy(t, &dice)
		d.Crash([]int{dice.below(9), dice.below(9), dice.below(9)})
		once := d.Copy()
		d.Crash([]int{0, 1, 2, 3, dice.below(9)})
		alike(t, "behind the second crash", d, once, true)
		counts(t, d, once.Writes())
	}
}

// TestHealing: a sector whose write became stable is whole, and an injury touches no other sector (P4.12).
func TestHealing(t *testing.T) {
	dice := dice(12)
	for range 300 {
		d := busy(t, &dice)
		queue, keep := d.Queue(), []int{dice.below(9), dice.below(9)}
		injured := d.Injured()
		d.Crash(keep)
		for i, w := range queue {
			if slices.Contains(keep, i) {
				injured = slices.DeleteFunc(injured, func(at int) bool { return at == w.At })
			}
		}
		hurt(t, d, injured...)
		at := dice.below(4)
		if slices.Contains(injured, at) {
			want(t, "Lose", d.Lose(at), api.ErrThere)
			continue
		}
		before := d.Copy()
		if dice.below(2) == 0 {
			want(t, "Lose", d.Lose(at), api.OK)
		} else {
			want(t, "Turn", d.Turn(at, 71, 1), api.OK)
		}
		for other := range 4 {
			a, ea := before.Read(other)
			b, eb := d.Read(other)
			if other != at && (ea != eb || !bytes.Equal(a, b)) {
				t.Fatalf("an injury of %d: Read(%d) %x, %d, and was %x, %d", at, other, b, eb, a, ea)
			}
		}
	}
}
