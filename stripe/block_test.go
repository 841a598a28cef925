package stripe_test

import (
	"bytes"
	"math"
	"testing"

	"granary/api"
	"granary/disk"
	"granary/stripe"
)

// A device is one of the devices of which others know no more than this.
var _ api.Blocks = (*stripe.Device)(nil)

// strangers is numbers of no block of a device of n blocks.
func strangers(n int) []int {
	return []int{-1, n, n + 1, math.MinInt, math.MaxInt, 1 << 32, -1 << 32}
}

// TestExampleCrash: the chapter's first and second example (P6.3 to P6.6).
func TestExampleCrash(t *testing.T) {
	d, disks := made(t, small)
	if disks[0].Size() != 224 {
		t.Error(disks[0].Size())
	}
	write(t, d, 0, full('a'))
	lies(t, d, 0, 0)
	stands(t, d, 4, 2)
	write(t, d, 0, full('b'))
	lies(t, d, 0, 1)
	flush(t, d)
	write(t, d, 0, full('c'))
	lies(t, d, 0, 0)
	again := copies(disks)
	crash(disks)
	d = opened(t, small, disks)
	reads(t, d, 0, full('b'))
	lies(t, d, 0, 1)
	stands(t, d, 4, 3)

	again[0].Crash([]int{0})
	again[1].Crash(nil)
	again[2].Crash([]int{0})
	d = opened(t, small, again)
	reads(t, d, 0, full('c'))
	lies(t, d, 0, 0)
	looks(t, d, 0, "RRR")
	stands(t, d, 4, 4)
}

// TestExampleFailures: the chapter's third example (P6.4, P6.5).
func TestExampleFailures(t *testing.T) {
	d, disks := made(t, small)
	write(t, d, 1, full('x'))
	flush(t, d)
	disks[1].Fail()
	reads(t, d, 1, full('x'))
	disks[0].Fail()
	readsNone(t, d, 1, api.ErrGone)
	want(t, "Write", d.Write(1, full('y')), api.ErrFew)
}

// TestReadErrors: blocks that there are not, blocks that were never written (P6.4).
func TestReadErrors(t *testing.T) {
	d, disks := made(t, small)
	write(t, d, 1, full('x'))
	for _, b := range strangers(3) {
		readsNone(t, d, b, api.ErrArg)
	}
	for _, each := range disks {
		each.Fail()
	}
	for _, b := range strangers(3) {
		readsNone(t, d, b, api.ErrArg)
	}
	reads(t, d, 0, full(0))
	readsNone(t, d, 1, api.ErrGone)
	reads(t, d, 2, full(0))
}

// TestReadAnyShards: every set of shards that is left tells the block if there are K of them, and else none does (P6.4).
func TestReadAnyShards(t *testing.T) {
	dice := dice(64)
	everyCount(2, 4, func(g api.Geometry) {
		p := dice.bytes(384)
		_, disks := made(t, g)
		d := opened(t, g, disks)
		write(t, d, 1, p)
		flush(t, d)
		parts(g.K+g.M, func(gone []int) {
			left := copies(disks)
			d := opened(t, g, left)
			for _, i := range gone {
				switch dice.below(4) {
				case 0:
					left[i].Fail()
				case 1:
					left[i].Replace()
				case 2:
					want(t, "Lose", left[i].Lose(0), api.OK)
				default:
					want(t, "Turn", left[i].Turn(0, dice.below(8*left[i].Size()), 1), api.OK)
				}
			}
			if len(gone) <= g.M {
				reads(t, d, 1, p)
				loses(t, d)
			} else {
				readsNone(t, d, 1, api.ErrGone)
				loses(t, d, 1)
			}
			reads(t, d, 0, full(0))
		})
	})
}

// TestFirstRight: where shards with right sums do not belong together, the first K tell the block (P6.4).
func TestFirstRight(t *testing.T) {
	g := api.Geometry{K: 2, M: 2, Blocks: 1, Rows: 2}
	disks := newDisks(t, g, 0)
	layRow(t, g, disks, 0, 0, 1, full('a'), 0, 1)
	layRow(t, g, disks, 0, 0, 1, full('b'), 2, 3)
	d := opened(t, g, disks)
	looks(t, d, 0, "RRRR")
	reads(t, d, 0, full('a'))
	disks[0].Lose(0)
	disks[1].Lose(0)
	reads(t, d, 0, full('b'))
	disks[3].Lose(0)
	readsNone(t, d, 0, api.ErrGone)
	disks[0].Replace()
	layRow(t, g, disks, 0, 0, 1, full('a'), 0)
	reads(t, d, 0, append(full('a')[:192], mixed(t, g)...))
}

// mixed is the second half of the block whose first half is a's and whose first parity shard is that of b's.
func mixed(t *testing.T, g api.Geometry) []byte {
	t.Helper()
	// The coefficients of that parity are the inverses of 2 and of 3 (chapter 3); the sum of the halves' products is the parity.
	parity := shardData(t, g, full('b'))[2][0]
	for x := range 256 {
		p := shardData(t, g, append(full('a')[:192], bytes.Repeat([]byte{byte(x)}, 192)...))
		if p[2][0] == parity {
			return p[1]
		}
	}
	t.Fatal("there is none")
	return nil
}

// TestSectorsWritten: a write is the row's sectors, on each disk one, and nothing else (P6.5).
func TestSectorsWritten(t *testing.T) {
	dice := dice(65)
	everyCount(3, 7, func(g api.Geometry) {
		d, disks := made(t, g)
		for n := range 5 {
			b, p := dice.below(3), dice.bytes(384)
			write(t, d, b, p)
			lies(t, d, b, n)
			reads(t, d, b, p)
			for i, sector := range rowBytes(t, g, b, uint64(n+1), p) {
				queue := disks[i].Queue()
				if len(queue) != n+1 || queue[n] != (api.Sector{At: n, Data: string(sector)}) {
					t.Errorf("%+v: the queue of the disk %d is %x", g, i, queue)
				}
			}
		}
	})
}

// TestWriteErrors: in their order, and each leaves all as it was (P6.5).
func TestWriteErrors(t *testing.T) {
	d, disks := made(t, small)
	write(t, d, 0, full('a'))
	refused := func(name string, b int, p []byte, e api.Errno) {
		t.Helper()
		free, next, before := d.FreeRows(), d.Sequence(), copies(disks)
		want(t, name, d.Write(b, p), e)
		stands(t, d, free, next)
		untouched(t, name, disks, before)
	}
	lengths := [][]byte{nil, {}, full('x')[:383], append(full('x'), 0), append(full('x'), full('x')...)}
	all := func(which string, block, right api.Errno) {
		t.Helper()
		for _, b := range strangers(3) {
			refused("no such block, "+which, b, full('x'), api.ErrArg)
			refused("no such block, no block's bytes, "+which, b, nil, api.ErrArg)
		}
		for _, p := range lengths {
			refused("no block's bytes, "+which, 1, p, block)
		}
		if right != api.OK {
			refused(which, 1, full('x'), right)
		}
	}
	all("else all is well", api.ErrLong, api.OK)
	for range 4 {
		write(t, d, 0, full('b'))
	}
	all("no row is free", api.ErrLong, api.ErrFull)
	disks[0].Fail()
	all("no row is free, one disk failed", api.ErrLong, api.ErrFull)
	disks[2].Fail()
	all("no row is free, two disks failed", api.ErrLong, api.ErrFew)
	want(t, "Flush", d.Flush(), api.ErrFew)
	disks[2].Replace()
	flush(t, d)
	disks[2].Fail()
	all("two disks failed", api.ErrLong, api.ErrFew)
	disks[2].Replace()
	write(t, d, 1, full('c'))
	reads(t, d, 1, full('c'))
}

// TestWritePastFailed: disks that have failed are passed over, as long as K have not (P6.5).
func TestWritePastFailed(t *testing.T) {
	dice := dice(66)
	everyCount(2, 4, func(g api.Geometry) {
		parts(g.K+g.M, func(gone []int) {
			if len(gone) > g.M {
				return
			}
			d, disks := made(t, g)
			for _, i := range gone {
				disks[i].Fail()
			}
			p := dice.bytes(384)
			write(t, d, 1, p)
			reads(t, d, 1, p)
			flush(t, d)
			reads(t, opened(t, g, disks), 1, p)
			for i, each := range disks {
				if each.Failed() == (each.Writes() == 1) {
					t.Errorf("%v failed: %d writes of %d", gone, each.Writes(), i)
				}
			}
		})
	})
}

// TestFreeRows: a row that a block has left is free only behind a Flush (P6.5, P6.6).
func TestFreeRows(t *testing.T) {
	d, _ := made(t, small)
	stands(t, d, 5, 1)
	write(t, d, 0, full('a')) // row 0
	stands(t, d, 4, 2)
	write(t, d, 0, full('b')) // row 1; row 0 is left
	stands(t, d, 3, 3)
	write(t, d, 1, full('c')) // row 2
	lies(t, d, 1, 2)
	stands(t, d, 2, 4)
	flush(t, d)
	stands(t, d, 3, 4)
	write(t, d, 2, full('d')) // row 0, the first that is free
	lies(t, d, 2, 0)
	write(t, d, 2, full('e')) // row 3; row 0 is left
	lies(t, d, 2, 3)
	write(t, d, 0, full('f')) // row 4; row 1 is left
	lies(t, d, 0, 4)
	stands(t, d, 0, 7)
	want(t, "Write", d.Write(0, full('g')), api.ErrFull)
	stands(t, d, 0, 7)
	reads(t, d, 0, full('f'))
	flush(t, d)
	stands(t, d, 2, 7)
	write(t, d, 0, full('g'))
	lies(t, d, 0, 0)
	reads(t, d, 1, full('c'))
	reads(t, d, 2, full('e'))
}

// TestLeftRowsStay: what a block has left is there until the Flush, whatever is written (P6.5, P6.10).
func TestLeftRowsStay(t *testing.T) {
	g := api.Geometry{K: 2, M: 1, Blocks: 4, Rows: 8}
	d, disks := made(t, g)
	for b := range 4 {
		write(t, d, b, full(byte('a'+b)))
	}
	flush(t, d)
	for b := range 4 {
		write(t, d, b, full('z'))
	}
	want(t, "Write", d.Write(0, full('y')), api.ErrFull)
	crash(disks)
	d = opened(t, g, disks)
	for b := range 4 {
		reads(t, d, b, full(byte('a'+b)))
	}
}

// fill lets as many writes wait as a disk takes: those of the last block.
func fill(t *testing.T, d *stripe.Device) {
	t.Helper()
	for range 4096 {
		want(t, "Write", d.Write(d.Len()-1, full('q')), api.OK)
	}
}

// refusing is a device of two blocks whose disks have full queues, but for those that are named, with the block 0 flushed in the row 0.
func refusing(t *testing.T, k, m int, room ...int) (*stripe.Device, []*disk.Disk) {
	t.Helper()
	g := api.Geometry{K: k, M: m, Blocks: 2, Rows: 4200}
	d, disks := made(t, g)
	write(t, d, 0, full('0'))
	flush(t, d)
	fill(t, d)
	for _, i := range room {
		disks[i].Flush()
	}
	return d, disks
}

// TestRefusedInTheMiddle: a disk that refuses in the middle of a row: the block lies where it lay, and the row is free again behind a Flush (P6.5).
func TestRefusedInTheMiddle(t *testing.T) {
	for _, room := range [][]int{nil, {0}, {0, 1}, {2}} {
		d, disks := refusing(t, 2, 1, room...)
		free, next := d.FreeRows(), d.Sequence()
		want(t, "Write", d.Write(0, full('1')), api.ErrMany)
		lies(t, d, 0, 0)
		reads(t, d, 0, full('0'))
		stands(t, d, free-1, next+1)
		wrote := len(room)
		if room != nil && room[0] != 0 {
			wrote = 0
		}
		row := 4097
		for i, each := range disks {
			n := 0
			for _, s := range each.Queue() {
				if s.At == row {
					n++
				}
			}
			if n == 1 != (i < wrote) {
				t.Errorf("%v have room: %d writes of the disk %d", room, n, i)
			}
		}
		want(t, "Write", d.Write(0, full('2')), api.ErrMany)
		stands(t, d, free-2, next+2)
		flush(t, d)
		stands(t, d, 4198, next+2)
		lies(t, d, 0, 0)
		reads(t, d, 0, full('0'))
		write(t, d, 0, full('3'))
		lies(t, d, 0, 1)
		stands(t, d, 4197, next+3)
		// What was refused is older than what was written behind it.
		flush(t, d)
		reads(t, opened(t, d.Geometry(), disks), 0, full('3'))
	}
}

// TestRefusedIsThere: behind a crash and Open a block may read as a write that a disk refused, if K of its shards were written (P6.10).
func TestRefusedIsThere(t *testing.T) {
	for _, room := range [][]int{{0}, {0, 1}} {
		d, disks := refusing(t, 2, 1, room...)
		want(t, "Write", d.Write(0, full('1')), api.ErrMany)
		for _, each := range disks {
			var all []int
			for i := range each.Queue() {
				all = append(all, i)
			}
			each.Crash(all)
		}
		d = opened(t, d.Geometry(), disks)
		if len(room) == 2 {
			reads(t, d, 0, full('1'))
			looks(t, d, 0, "RRR")
		} else {
			reads(t, d, 0, full('0'))
		}
	}
}

// TestFlush: it flushes what has not failed, and tells whether that is enough (P6.6).
func TestFlush(t *testing.T) {
	everyCount(2, 5, func(g api.Geometry) {
		parts(g.K+g.M, func(gone []int) {
			d, disks := made(t, g)
			write(t, d, 0, full('a'))
			write(t, d, 0, full('b'))
			for _, i := range gone {
				disks[i].Fail()
			}
			e, free := api.OK, 4
			if len(gone) > g.M {
				e, free = api.ErrFew, 3
			}
			want(t, "Flush", d.Flush(), e)
			stands(t, d, free, 3)
			for i, each := range disks {
				if len(each.Queue()) > 0 || !each.Failed() && each.Writes() != 2 {
					t.Errorf("%v failed: the disk %d has %d writes", gone, i, each.Writes())
				}
			}
			for _, i := range gone {
				disks[i].Replace()
			}
			flush(t, d)
			stands(t, d, 4, 3)
		})
	})
}

// TestSequence: it grows with each write that comes so far, and goes on behind Open (P6.3, P6.5).
func TestSequence(t *testing.T) {
	d, disks := made(t, small)
	for n := range 40 {
		stands(t, d, d.FreeRows(), uint64(n+1))
		write(t, d, n%3, full(byte(n)))
		want(t, "Write", d.Write(3, full('x')), api.ErrArg)
		want(t, "Write", d.Write(0, nil), api.ErrLong)
		if n%2 == 1 {
			flush(t, d)
			d = opened(t, small, disks)
		}
	}
}
