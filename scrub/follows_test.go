package scrub_test

import (
	"bytes"
	"fmt"
	"slices"
	"testing"

	"granary/api"
	"granary/disk"
	"granary/scrub"
	"granary/stripe"
)

// ward is a device on its disks, with a scrubber.
type ward struct {
	t     *testing.T
	g     api.Geometry
	d     *stripe.Device
	disks []*disk.Disk
	s     *scrub.Scrub
}

func newWard(t *testing.T, g api.Geometry) *ward {
	t.Helper()
	disks := newDisks(t, g)
	d := opened(t, g, disks)
	return &ward{t: t, g: g, d: d, disks: disks, s: scrub.New(d)}
}

// contents is what each block reads as.
func (w *ward) contents() []string {
	var out []string
	for b := range w.g.Blocks {
		p, e := w.d.Read(b)
		out = append(out, fmt.Sprintf("%x %d", p, e))
	}
	return out
}

// spare: without the disk, or only without its sector of the row, each block would have K right shards still.
func (w *ward) spare(i, row int, whole bool) bool {
	for b := range w.g.Blocks {
		states, e := w.d.Look(b)
		if at, _ := w.d.RowOf(b); e != api.OK || !whole && at != row {
			continue
		}
		right := 0
		for j, state := range states {
			if state == api.ShardRight && j != i {
				right++
			}
		}
		if right < w.g.K {
			return false
		}
	}
	return true
}

// harm does something to a disk; where it is gentle, only if of each block K shards stay right.
func (w *ward) harm(dice *dice, gentle bool) {
	i, row, how := dice.below(len(w.disks)), dice.below(w.g.Rows), dice.below(8)
	bit, mask := dice.below(8*stripe.ShardBytes(w.g)), uint32(1+dice.below(1<<31-1))
	if gentle && !w.spare(i, row, how < 3) {
		return
	}
	switch d := w.disks[i]; {
	case how == 0:
		d.Fail()
	case how < 3:
		d.Replace()
	case how < 6:
		d.Lose(row)
	default:
		d.Turn(row, bit, mask)
	}
}

// crash lets the power fail, with any part of what waits, and opens the disks anew, if enough of them are left.
func (w *ward) crash(dice *dice) {
	w.t.Helper()
	for _, each := range w.disks {
		each.Crash(dice.part(len(each.Queue())))
	}
	d, e := stripe.Open(w.g, w.disks)
	if e == api.OK {
		w.d = d
		w.s = loaded(w.t, d, w.s.Save())
	}
}

// TestPassHeals: whatever was done, as long as of each block K shards are right: behind a pass all are, on disks that have not failed, and each block reads as it did (P7.6).
func TestPassHeals(t *testing.T) {
	dice := dice(77)
	healed := uint64(0)
	everyCount(0, 0, func(g api.Geometry) {
		for _, size := range [][2]int{{1, 2}, {3, 5}, {6, 14}} {
			g.Blocks, g.Rows = size[0], size[1]
			w := newWard(t, g)
			for range 250 {
				switch n := dice.below(20); {
				case n < 7:
					w.d.Write(dice.below(g.Blocks), full(byte(dice.below(256))))
				case n < 9:
					w.d.Flush()
				case n < 10:
					w.crash(&dice)
				case n < 17:
					w.harm(&dice, true)
				case n < 18:
					w.s.Step()
				default:
					w.pass()
				}
				if lost := w.d.Lost(); len(lost) > 0 {
					t.Fatalf("%+v: %v are lost", g, lost)
				}
			}
			healed += w.s.Tally().Healed
		}
	})
	if healed < 1000 {
		t.Errorf("%d shards were healed", healed)
	}
}

// pass makes a whole one, and looks at all.
func (w *ward) pass() {
	w.t.Helper()
	w.s.Run((w.g.Blocks - w.s.At()) % w.g.Blocks)
	before := w.contents()
	found, e := w.s.Pass()
	if e != api.OK || len(found) != w.g.Blocks || w.s.At() != 0 {
		w.t.Fatalf("%+v: Pass: %+v, error %d", w.g, found, e)
	}
	if !slices.Equal(w.contents(), before) {
		w.t.Fatalf("%+v: a block reads otherwise behind %+v", w.g, found)
	}
	for b := range w.g.Blocks {
		if states, _ := w.d.Look(b); slices.Contains(states, api.ShardWrong) {
			w.t.Fatalf("%+v: behind %+v the shards of the block %d are %v", w.g, found, b, states)
		}
	}
	for _, each := range found {
		if each.Err != api.OK || each.Kind == api.ScanGone {
			w.t.Fatalf("%+v: %+v", w.g, each)
		}
	}
	if len(w.s.Tally().Gone) != 0 {
		w.t.Fatalf("%+v: %+v", w.g, w.s.Tally())
	}
}

// TestHealedForGood: what a pass has healed is there behind a crash that keeps nothing (P7.2, P7.6).
func TestHealedForGood(t *testing.T) {
	everyCount(4, 9, func(g api.Geometry) {
		parts(g.K+g.M, func(which []int) {
			if len(which) == 0 || len(which) > g.M {
				return
			}
			d, disks := made(t, g, 3)
			for _, i := range which {
				disks[i].Replace()
			}
			s := scrub.New(d)
			if _, e := s.Pass(); e != api.OK {
				t.Fatalf("Pass: error %d", e)
			}
			stands(t, s, 0, api.Tally{Steps: 4, Passes: 1, Wrong: 3 * uint64(len(which)), Healed: 3 * uint64(len(which))})
			for _, each := range disks {
				each.Crash(nil)
			}
			for b := range 3 {
				looks(t, d, b, "RRRRRRRR"[:g.K+g.M])
				reads(t, d, b, full(byte('a'+b)))
			}
		})
	})
}

// TestOneBehindTheOther: disks that are replaced one behind the other, M at a time, each time healed by a pass: in the end each disk was another, and all reads as it did (P7.6).
func TestOneBehindTheOther(t *testing.T) {
	everyCount(4, 6, func(g api.Geometry) {
		if g.M == 0 {
			return
		}
		d, disks := made(t, g, 4)
		s := scrub.New(d)
		for first := 0; first < len(disks); first += g.M {
			for i := first; i < min(first+g.M, len(disks)); i++ {
				disks[i].Fail()
				disks[i].Replace()
			}
			if _, e := s.Pass(); e != api.OK {
				t.Errorf("Pass: error %d", e)
			}
		}
		for b := range 4 {
			reads(t, d, b, full(byte('a'+b)))
			looks(t, d, b, "RRRRRRRR"[:g.K+g.M])
		}
		if y := s.Tally(); y.Healed != uint64(4*len(disks)) || len(y.Gone) != 0 {
			t.Errorf("%+v: %+v", g, y)
		}
	})
}

// drawnWard is a ward to which things were done, the same ones each time that it is made of the same dice.
func drawnWard(t *testing.T, g api.Geometry, dice dice) *ward {
	t.Helper()
	w := newWard(t, g)
	for range 40 {
		switch n := dice.below(10); {
		case n < 4:
			w.d.Write(dice.below(g.Blocks), full(byte(dice.below(256))))
		case n < 5:
			w.d.Flush()
		case n < 6:
			w.s.Step()
		default:
			w.harm(&dice, false)
		}
	}
	return w
}

// TestCutAnywhere: a pass that is cut by Save and Load, at any places, finds and leaves what one at a stroke does (P7.7).
func TestCutAnywhere(t *testing.T) {
	everyCount(5, 11, func(g api.Geometry) {
		for seed := range dice(3) {
			whole := drawnWard(t, g, seed)
			left := g.Blocks - whole.s.At()
			want, _ := whole.s.Pass()
			parts(left, func(cuts []int) {
				w := drawnWard(t, g, seed)
				var found []api.Scan
				for n := range left {
					if slices.Contains(cuts, n) {
						w.s = loaded(t, w.d, w.s.Save())
					}
					each, _ := w.s.Step()
					found = append(found, each)
				}
				if !slices.EqualFunc(found, want, sameScan) {
					t.Fatalf("%+v, cut at %v: found %+v, want %+v", g, cuts, found, want)
				}
				if !sameTally(w.s.Tally(), whole.s.Tally()) || !bytes.Equal(w.s.Save(), whole.s.Save()) {
					t.Fatalf("%+v, cut at %v: %+v, want %+v", g, cuts, w.s.Tally(), whole.s.Tally())
				}
				untouched(t, "cut", w.disks, whole.disks)
			})
		}
	})
}

// TestCutByCrashes: where the power fails between steps, each one goes on where the last one stood (P7.5, P7.7).
func TestCutByCrashes(t *testing.T) {
	dice := dice(78)
	everyCount(4, 9, func(g api.Geometry) {
		w := newWard(t, g)
		for n := range 60 {
			w.d.Write(dice.below(4), full(byte(n)))
			w.harm(&dice, true)
			if dice.below(2) == 0 {
				w.crash(&dice)
			}
			if w.s.At() != n%4 || w.s.Tally().Steps != uint64(n) || w.s.Tally().Passes != uint64(n/4) {
				t.Fatalf("behind %d steps: At %d, %+v", n, w.s.At(), w.s.Tally())
			}
			if found, e := w.s.Step(); e != api.OK || found.Block != n%4 || found.Kind == api.ScanGone {
				t.Fatalf("Step: %+v, error %d", found, e)
			}
		}
	})
}

// written is how many writes the disks had, those that wait too.
func (w *ward) written() []int {
	var out []int
	for _, each := range w.disks {
		out = append(out, each.Writes()+len(each.Queue()))
	}
	return out
}

// step: what is gone is told, what was right or gone is not touched, and of what was wrong each shard is written once.
func (w *ward) step() int {
	w.t.Helper()
	b := w.s.At()
	gone := slices.Contains(w.d.Lost(), b)
	states, e := w.d.Look(b)
	before, wrote := copies(w.disks), w.written()
	found, _ := w.s.Step()
	if found.Block != b || (found.Kind == api.ScanGone) != gone || (found.Kind == api.ScanEmpty) != (e == api.ErrNone) {
		w.t.Fatalf("%+v: %+v, but its shards were %v", w.g, found, states)
	}
	if slices.Contains(w.s.Tally().Gone, b) != gone {
		w.t.Fatalf("%+v: %+v, but the block %d is gone: %v", w.g, w.s.Tally(), b, gone)
	}
	if found.Kind != api.ScanHealed {
		untouched(w.t, "not healed", w.disks, before)
		return found.Kind
	}
	for i, state := range states {
		if state == api.ShardWrong {
			wrote[i]++
		}
	}
	if !slices.Equal(w.written(), wrote) {
		w.t.Fatalf("%+v: %v writes, want %v, where the shards were %v", w.g, w.written(), wrote, states)
	}
	return found.Kind
}

// TestTold: whatever is done: what is gone is told, and what was right is not written (P7.8).
func TestTold(t *testing.T) {
	dice := dice(79)
	var kinds [5]int
	everyCount(0, 0, func(g api.Geometry) {
		for _, size := range [][2]int{{1, 2}, {4, 9}} {
			g.Blocks, g.Rows = size[0], size[1]
			w := newWard(t, g)
			for range 200 {
				switch n := dice.below(20); {
				case n < 5:
					w.d.Write(dice.below(g.Blocks), full(byte(dice.below(256))))
				case n < 7:
					w.d.Flush()
				case n < 8:
					w.crash(&dice)
				case n < 11:
					w.harm(&dice, false)
				default:
					kinds[w.step()]++
				}
			}
		}
	})
	for _, kind := range []int{api.ScanEmpty, api.ScanRight, api.ScanHealed, api.ScanGone} {
		if kinds[kind] < 50 {
			t.Errorf("of the kind %d were %d steps", kind, kinds[kind])
		}
	}
}

// TestGoneIsLost: behind a pass that nobody disturbs, Gone is what the device tells as Lost (P7.8).
func TestGoneIsLost(t *testing.T) {
	everyCount(6, 13, func(g api.Geometry) {
		for seed := range dice(20) {
			w := drawnWard(t, g, seed+100)
			w.s.Pass()
			w.s.Pass()
			if got := w.s.Tally().Gone; !slices.Equal(got, w.d.Lost()) {
				t.Fatalf("%+v: Gone %v, but %v are lost", g, got, w.d.Lost())
			}
		}
	})
}
