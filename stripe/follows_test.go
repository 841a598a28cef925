package stripe_test

import (
	"bytes"
	"slices"
	"testing"

	"granary/api"
	"granary/disk"
	"granary/stripe"
)

// allRight: no shard of a block that lies somewhere is wrong (P6.11).
func allRight(t *testing.T, name string, d *stripe.Device) {
	t.Helper()
	for b := range d.Len() {
		if states, e := d.Look(b); slices.Contains(states, api.ShardWrong) {
			t.Fatalf("%s: the shards of the block %d are %v, error %d", name, b, states, e)
		}
	}
}

// promised is what is known of a block: what it read as when it was last flushed, the later writes, and whether the first is sure (P6.9).
type promised struct {
	flushed []byte
	later   [][]byte
	sure    bool
}

// ward is a device with what is promised of its blocks, and the disks that were touched since they were last healed.
type ward struct {
	t      *testing.T
	g      api.Geometry
	d      *stripe.Device
	disks  []*disk.Disk
	blocks []promised
	hurt   []bool
}

func newWard(t *testing.T, g api.Geometry) *ward {
	t.Helper()
	d, disks := made(t, g)
	w := &ward{t: t, g: g, d: d, disks: disks, blocks: make([]promised, g.Blocks), hurt: make([]bool, g.K+g.M)}
	for b := range w.blocks {
		w.blocks[b] = promised{flushed: full(0), sure: true}
	}
	return w
}

// write writes the block, and knows of it no more than what it was or is.
func (w *ward) write(b int, p []byte) {
	w.t.Helper()
	e := w.d.Write(b, p)
	if e != api.OK && e != api.ErrFull {
		w.t.Fatalf("%+v: Write(%d): error %d", w.g, b, e)
	}
	if e == api.OK {
		w.blocks[b].later = append(w.blocks[b].later, p)
		w.blocks[b].sure = false
	}
}

// flush makes the last write of each block the one that is sure, if no crash was between.
func (w *ward) flush() {
	w.t.Helper()
	want(w.t, "Flush", w.d.Flush(), api.OK)
	for b := range w.blocks {
		if l := w.blocks[b].later; len(l) > 0 {
			w.blocks[b] = promised{flushed: l[len(l)-1], sure: true}
		}
	}
}

// crash lets the power fail with any part of what waits, and opens the disks again: each block reads as one of those that it may read as, and from now on as that.
func (w *ward) crash(dice *dice) {
	w.t.Helper()
	for _, d := range w.disks {
		d.Crash(dice.part(len(d.Queue())))
	}
	w.keepsSure("behind a crash")
	w.d = opened(w.t, w.g, w.disks)
	allRight(w.t, "behind Open", w.d)
	for b := range w.blocks {
		p, e := w.d.Read(b)
		if e != api.OK || !w.blocks[b].may(p) {
			w.t.Fatalf("%+v: behind Open the block %d reads as %x, error %d", w.g, b, p, e)
		}
		w.blocks[b] = promised{flushed: p, sure: true}
	}
	w.healed()
}

// may: the block may read as p behind a crash and Open (P6.9, P6.10).
func (p promised) may(read []byte) bool {
	if bytes.Equal(read, p.flushed) {
		return true
	}
	return slices.ContainsFunc(p.later, func(l []byte) bool { return bytes.Equal(l, read) })
}

// keepsSure: blocks that were flushed, and not written since, read as that.
func (w *ward) keepsSure(when string) {
	w.t.Helper()
	for b, known := range w.blocks {
		if p, e := w.d.Read(b); known.sure && (e != api.OK || !bytes.Equal(p, known.flushed)) {
			w.t.Fatalf("%+v: %s the block %d reads as %x, error %d", w.g, when, b, p, e)
		}
	}
}

// healed: only those disks lack shards that have failed.
func (w *ward) healed() {
	for i, d := range w.disks {
		w.hurt[i] = d.Failed()
	}
}

// harm does something to a disk, if then no more than M are touched.
func (w *ward) harm(dice *dice) {
	i, row := dice.below(len(w.disks)), dice.below(w.g.Rows)
	others := 0
	for j, is := range w.hurt {
		if is && j != i {
			others++
		}
	}
	if others >= w.g.M {
		return
	}
	w.hurt[i] = true
	switch d := w.disks[i]; dice.below(6) {
	case 0:
		d.Fail()
	case 1:
		d.Replace()
	case 2, 3:
		d.Lose(row)
	default:
		d.Turn(row, dice.below(8*d.Size()), dice.word())
	}
}

// rebuild heals all that can be.
func (w *ward) rebuild(dice *dice) {
	w.t.Helper()
	for _, d := range w.disks {
		if d.Failed() && dice.below(3) > 0 {
			d.Replace()
		}
	}
	if lost := w.d.Lost(); len(lost) > 0 {
		w.t.Fatalf("%+v: %v are lost", w.g, lost)
	}
	_, e := w.d.Rebuild()
	want(w.t, "Rebuild", e, api.OK)
	allRight(w.t, "behind Rebuild", w.d)
	for b := range w.blocks {
		if l := w.blocks[b].later; len(l) > 0 {
			w.blocks[b] = promised{flushed: l[len(l)-1], sure: true}
		}
	}
	w.healed()
}

// TestDrawnScripts: writes, flushes, crashes that keep any part of what waits, failures, injuries and replacements of at most M disks at a time: what was flushed reads as that, behind Open each block as it was or as a later write, and all shards are right (P6.9 to P6.11).
func TestDrawnScripts(t *testing.T) {
	dice := dice(69)
	everyCount(0, 0, func(g api.Geometry) {
		for _, size := range [][2]int{{1, 2}, {3, 5}, {5, 12}} {
			g.Blocks, g.Rows = size[0], size[1]
			w := newWard(t, g)
			for range 250 {
				switch n := dice.below(20); {
				case n < 8:
					w.write(dice.below(g.Blocks), dice.bytes(384))
				case n < 11:
					w.flush()
				case n < 13:
					w.crash(&dice)
				case n < 18:
					w.harm(&dice)
				case n < 19:
					w.rebuild(&dice)
				default:
					w.d.Heal(dice.below(g.Blocks))
				}
				w.keepsSure("behind a step")
			}
		}
	})
}

// TestUnharmed: the same without harm, with several writes of each block between flushes (P6.10, P6.11).
func TestUnharmed(t *testing.T) {
	dice := dice(610)
	everyCount(0, 0, func(g api.Geometry) {
		for _, size := range [][2]int{{1, 3}, {2, 9}, {4, 20}} {
			g.Blocks, g.Rows = size[0], size[1]
			w := newWard(t, g)
			for range 60 {
				for range dice.below(10) {
					w.write(dice.below(g.Blocks), dice.bytes(384))
				}
				if dice.below(2) == 0 {
					w.flush()
				} else {
					w.crash(&dice)
				}
				w.keepsSure("behind a step")
			}
		}
	})
}

// TestEveryCrash: two blocks, each written twice behind a flush, and every part of what waits (P6.10, P6.11).
func TestEveryCrash(t *testing.T) {
	for _, g := range []api.Geometry{{K: 1, M: 0, Blocks: 2, Rows: 6}, {K: 1, M: 1, Blocks: 2, Rows: 6}, {K: 2, M: 0, Blocks: 2, Rows: 6}, {K: 2, M: 1, Blocks: 2, Rows: 6}, {K: 1, M: 2, Blocks: 2, Rows: 6}} {
		d, disks := made(t, g)
		// The rows to which is written later were others' rows: what is left there is right, but old.
		for _, c := range "mnopqr" {
			write(t, d, int(c)%2, full(byte(c)))
		}
		flush(t, d)
		write(t, d, 0, full('a'))
		write(t, d, 1, full('b'))
		flush(t, d)
		write(t, d, 0, full('c'))
		write(t, d, 1, full('d'))
		write(t, d, 0, full('e'))
		n := len(disks[0].Queue())
		parts(n*len(disks), func(kept []int) {
			after := copies(disks)
			for i, each := range after {
				var keep []int
				for _, k := range kept {
					if k/n == i {
						keep = append(keep, k%n)
					}
				}
				each.Crash(keep)
			}
			d := opened(t, g, after)
			allRight(t, "behind Open", d)
			zero, e := d.Read(0)
			one, f := d.Read(1)
			if e != api.OK || f != api.OK || !bytes.Contains([]byte("ace"), zero[:1]) || !bytes.Contains([]byte("bd"), one[:1]) {
				t.Fatalf("%+v, %v kept: %q and %q, errors %d and %d", g, kept, zero[0], one[0], e, f)
			}
			reads(t, d, 0, full(zero[0]))
			reads(t, d, 1, full(one[0]))
			// Who has K shards of it has the write.
			if c := late(after, kept, n, g.K); c != 0 && zero[0] != c {
				t.Fatalf("%+v, %v kept: %q, want %q", g, kept, zero[0], c)
			}
		})
	}
}

// late is the last write of the block 0 of which K shards were kept; 0, if there is none.
func late(disks []*disk.Disk, kept []int, n, k int) byte {
	for _, each := range []struct {
		at int
		c  byte
	}{{2, 'e'}, {0, 'c'}} {
		shards := 0
		for i := range disks {
			if slices.Contains(kept, i*n+each.at) {
				shards++
			}
		}
		if shards >= k {
			return each.c
		}
	}
	return 0
}

// TestAnyM: any M shards of a row are hurt, the power fails, and the disks are opened again (P6.9, P6.11).
func TestAnyM(t *testing.T) {
	dice := dice(611)
	everyCount(2, 4, func(g api.Geometry) {
		p := dice.bytes(384)
		fresh, disks := made(t, g)
		write(t, fresh, 1, p)
		flush(t, fresh)
		parts(g.K+g.M, func(gone []int) {
			if len(gone) > g.M {
				return
			}
			now := copies(disks)
			d := opened(t, g, now)
			for n, i := range gone {
				hurtBy(t, g, now[i], 0, i, "LTRF"[(n+i)%4])
			}
			reads(t, d, 1, p)
			write(t, d, 0, full('w'))
			reads(t, d, 1, p)
			crash(now)
			reads(t, d, 1, p)
			d = opened(t, g, now)
			allRight(t, "behind Open", d)
			reads(t, d, 1, p)
			// Other M may be hurt now, the disks that have failed among them.
			n := 0
			for _, each := range now {
				if each.Failed() {
					n++
				}
			}
			for i := len(now) - 1; i >= 0 && n < g.M; i-- {
				if !now[i].Failed() {
					now[i].Replace()
					n++
				}
			}
			reads(t, d, 1, p)
			reads(t, opened(t, g, now), 1, p)
		})
	})
}

// TestToldBits: a shard with any one bit turned is none (P6.12).
func TestToldBits(t *testing.T) {
	dice := dice(612)
	everyCount(3, 5, func(g api.Geometry) {
		for i := range g.K + g.M {
			p := schoolPut(api.Shard{Block: 2, Sequence: uint64(1 + dice.below(1000)), Index: i, K: g.K, M: g.M, Data: dice.bytes(384 / g.K)})
			if _, e := stripe.GetShard(p); e != api.OK {
				t.Fatal(e)
			}
			for bit := range 8 * len(p) {
				p[bit/8] ^= 1 << (bit % 8)
				if s, e := stripe.GetShard(p); e != api.ErrShard {
					t.Fatalf("the bit %d: %+v, error %d", bit, s, e)
				}
				p[bit/8] ^= 1 << (bit % 8)
			}
		}
	})
}

// TestToldBursts: nor is one with bits turned within 32 neighbouring ones (P6.12).
func TestToldBursts(t *testing.T) {
	dice := dice(613)
	for k := 1; k <= 4; k++ {
		good := schoolPut(api.Shard{Block: 1, Sequence: 12345, Index: 0, K: k, M: 1, Data: dice.bytes(384 / k)})
		bits := 8 * len(good)
		for n := range 60000 {
			d, _ := disk.New(1, len(good))
			lay(t, d, 0, good)
			bit, mask := dice.below(bits), dice.word()|1
			switch n % 4 {
			case 0: // across the head's and the data's border
				bit = 8*28 - dice.below(32)
			case 1: // across the data's and the sum's border, and within the sum
				bit = bits - 1 - dice.below(64)
			}
			if n%5 == 0 {
				mask |= 1 << 31
			}
			want(t, "Turn", d.Turn(0, bit, mask), api.OK)
			p, _ := d.Read(0)
			if s, e := stripe.GetShard(p); e != api.ErrShard {
				t.Fatalf("K %d, from the bit %d on %x: %+v, error %d", k, bit, mask, s, e)
			}
		}
	}
}

// TestToldOnDisks: an injury of a disk's sector is seen, healed, and changes nothing that is read (P6.12).
func TestToldOnDisks(t *testing.T) {
	dice := dice(614)
	d, disks := made(t, small)
	p := dice.bytes(384)
	write(t, d, 2, p)
	flush(t, d)
	for range 3000 {
		i := dice.below(3)
		want(t, "Turn", disks[i].Turn(0, dice.below(224*8), dice.word()|1), api.OK)
		states := []byte("RRR")
		states[i] = 'W'
		looks(t, d, 2, string(states))
		reads(t, d, 2, p)
		heals(t, d, 2, 1, api.OK)
		looks(t, d, 2, "RRR")
		flush(t, d)
	}
}

// TestEnoughRows: with Rows of Blocks and n, n writes behind a Flush have room, wherever the blocks lie (P6.13).
func TestEnoughRows(t *testing.T) {
	dice := dice(615)
	for blocks := 1; blocks <= 6; blocks++ {
		for n := 1; n <= 7; n++ {
			g := api.Geometry{K: 1, M: dice.below(2), Blocks: blocks, Rows: blocks + n}
			d, _ := made(t, g)
			for range 40 {
				for range n {
					want(t, "Write", d.Write(dice.below(blocks), full('n')), api.OK)
				}
				flush(t, d)
			}
			if blocks == n {
				for b := range blocks {
					write(t, d, b, full('m'))
				}
				flush(t, d)
				for b := range blocks {
					write(t, d, b, full('o'))
				}
				want(t, "Write", d.Write(0, full('p')), api.ErrFull)
			}
		}
	}
}
