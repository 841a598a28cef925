package scrub_test

import (
	"slices"
	"testing"

	"granary/api"
	"granary/disk"
	"granary/scrub"
	"granary/stripe"
)

// twins is a device with a scrubber, and another that is treated alike, but whose blocks are looked at as the chapter's words say, with all that was ever found kept.
type twins struct {
	t      *testing.T
	g      api.Geometry
	d      *stripe.Device
	other  *stripe.Device
	s      *scrub.Scrub
	found  []api.Scan
	healed uint64
}

func newTwins(t *testing.T, g api.Geometry) *twins {
	t.Helper()
	w := &twins{t: t, g: g, d: opened(t, g, newDisks(t, g)), other: opened(t, g, newDisks(t, g))}
	w.s = scrub.New(w.d)
	return w
}

// plain is a step of the other's, in the chapter's words (P7.2).
func (w *twins) plain() api.Scan {
	out := api.Scan{Block: len(w.found) % w.g.Blocks}
	states, e := w.other.Look(out.Block)
	if e == api.ErrNone {
		out.Kind = api.ScanEmpty
		return out
	}
	right := 0
	for i, state := range states {
		if state == api.ShardRight {
			right++
		}
		if state == api.ShardWrong {
			out.Wrong = append(out.Wrong, i)
		}
	}
	if right < w.g.K {
		out.Kind = api.ScanGone
		return out
	}
	if len(out.Wrong) == 0 {
		out.Kind = api.ScanRight
		return out
	}
	n, e := w.other.Heal(out.Block)
	w.healed += uint64(n)
	if e != api.OK {
		out.Kind, out.Err = api.ScanError, e
		return out
	}
	out.Kind, out.Err = api.ScanHealed, w.other.Flush()
	return out
}

// plainly is so many steps of the other's.
func (w *twins) plainly(n int) []api.Scan {
	var out []api.Scan
	for range n {
		found := w.plain()
		w.found = append(w.found, found)
		out = append(out, found)
	}
	return out
}

// tally is P7.4 of all that was found.
func (w *twins) tally() api.Tally {
	out := api.Tally{Steps: uint64(len(w.found)), Passes: uint64(len(w.found) / w.g.Blocks), Healed: w.healed}
	for _, found := range w.found {
		out.Wrong += uint64(len(found.Wrong))
		if found.Kind == api.ScanRight {
			out.Right++
		}
	}
	for b := range w.g.Blocks {
		last := -1
		for i := b; i < len(w.found); i += w.g.Blocks {
			last = w.found[i].Kind
		}
		if last == api.ScanGone {
			out.Gone = append(out.Gone, b)
		}
	}
	return out
}

// agree: the scrubber tells what was found, and the disks are alike.
func (w *twins) agree() {
	w.t.Helper()
	if at := len(w.found) % w.g.Blocks; w.s.At() != at || !sameTally(w.s.Tally(), w.tally()) {
		w.t.Fatalf("%+v: At %d, Tally %+v, want %d, %+v", w.g, w.s.At(), w.s.Tally(), at, w.tally())
	}
	others := w.other.Disks()
	for i, each := range w.d.Disks() {
		if !disk.Same(each, others[i]) || each.Writes() != others[i].Writes() {
			w.t.Fatalf("%+v: the disk %d is not the other's", w.g, i)
		}
	}
}

// same: both answered the same.
func (w *twins) same(name string, got, e api.Errno) {
	w.t.Helper()
	if got != e {
		w.t.Fatalf("%+v: %s: error %d, and of the other %d", w.g, name, got, e)
	}
}

// onDisk does something to the same disk of both.
func (w *twins) onDisk(i int, do func(d *disk.Disk) api.Errno) {
	w.t.Helper()
	w.same("a disk", do(w.d.Disks()[i]), do(w.other.Disks()[i]))
}

// scrubs makes steps, one by one, in a Run, or until a pass is over.
func (w *twins) scrubs(dice *dice) {
	w.t.Helper()
	n, e := 1, api.OK
	var got []api.Scan
	switch dice.below(4) {
	case 0:
		n = dice.below(2 * w.g.Blocks)
		got, e = w.s.Run(n)
	case 1:
		n = w.g.Blocks - len(w.found)%w.g.Blocks
		got, e = w.s.Pass()
	default:
		var found api.Scan
		found, e = w.s.Step()
		got = []api.Scan{found}
	}
	if l := w.plainly(n); e != api.OK || !slices.EqualFunc(got, l, sameScan) {
		w.t.Fatalf("%+v: found %+v, error %d, want %+v", w.g, got, e, l)
	}
}

// open opens both anew, where that can be, and the scrubber goes on there.
func (w *twins) open() {
	w.t.Helper()
	d, e := stripe.Open(w.g, w.d.Disks())
	other, why := stripe.Open(w.g, w.other.Disks())
	w.same("Open", e, why)
	if e == api.OK {
		w.d, w.other = d, other
		w.s = loaded(w.t, d, w.s.Save())
	}
}

// crash lets the power fail, with any part of what waits.
func (w *twins) crash(dice *dice) {
	w.t.Helper()
	for i, each := range w.d.Disks() {
		keep := dice.part(len(each.Queue()))
		w.onDisk(i, func(d *disk.Disk) api.Errno { d.Crash(keep); return api.OK })
	}
	if dice.below(3) > 0 {
		w.open()
	}
}

// harm hurts a disk, or a sector of it, or replaces it.
func (w *twins) harm(dice *dice) {
	w.t.Helper()
	i, row := dice.below(w.g.K+w.g.M), dice.below(w.g.Rows)
	how, bit, mask := dice.below(12), dice.below(8*stripe.ShardBytes(w.g)), uint32(1+dice.below(1<<31-1))
	w.onDisk(i, func(d *disk.Disk) api.Errno {
		switch {
		case how == 0:
			d.Fail()
		case how < 4:
			d.Replace()
		case how < 8:
			return d.Lose(row)
		default:
			return d.Turn(row, bit, mask)
		}
		return api.OK
	})
}

// step does something drawn to both.
func (w *twins) step(dice *dice) {
	w.t.Helper()
	switch n := dice.below(24); {
	case n < 5:
		b, p := dice.below(w.g.Blocks), full(byte(dice.below(256)))
		w.same("Write", w.d.Write(b, p), w.other.Write(b, p))
	case n < 7:
		w.same("Flush", w.d.Flush(), w.other.Flush())
	case n < 9:
		w.crash(dice)
	case n < 14:
		w.harm(dice)
	case n < 16:
		w.s = loaded(w.t, w.d, w.s.Save())
	default:
		w.scrubs(dice)
	}
}

// TestDrawnAccounts: long lists of what may be done to a device, its disks and its scrubber, and behind each all that the scrubber tells (P7.2 to P7.5).
func TestDrawnAccounts(t *testing.T) {
	dice := dice(7)
	everyCount(0, 0, func(g api.Geometry) {
		for _, size := range [][2]int{{1, 2}, {2, 4}, {5, 9}} {
			g.Blocks, g.Rows = size[0], size[1]
			w := newTwins(t, g)
			for range 300 {
				w.step(&dice)
				w.agree()
			}
		}
	})
}

// TestShortAccounts: all lists of five of some steps, on a small device (P7.2 to P7.5).
func TestShortAccounts(t *testing.T) {
	onDisk := func(i int, do func(d *disk.Disk) api.Errno) func(w *twins) {
		return func(w *twins) { w.onDisk(i, do) }
	}
	steps := []func(w *twins){
		func(w *twins) { w.same("Write", w.d.Write(0, full('a')), w.other.Write(0, full('a'))) },
		func(w *twins) { w.same("Flush", w.d.Flush(), w.other.Flush()) },
		onDisk(0, func(d *disk.Disk) api.Errno { d.Crash(nil); return api.OK }),
		onDisk(0, func(d *disk.Disk) api.Errno { d.Fail(); return api.OK }),
		onDisk(0, func(d *disk.Disk) api.Errno { d.Replace(); return api.OK }),
		onDisk(1, func(d *disk.Disk) api.Errno { return d.Lose(0) }),
		func(w *twins) { w.s = loaded(w.t, w.d, w.s.Save()) },
		func(w *twins) {
			found, e := w.s.Step()
			if l := w.plainly(1); e != api.OK || !sameScan(found, l[0]) {
				w.t.Fatalf("Step: %+v, error %d, want %+v", found, e, l[0])
			}
		},
		func(w *twins) {
			found, e := w.s.Pass()
			if l := w.plainly(2 - len(w.found)%2); e != api.OK || !slices.EqualFunc(found, l, sameScan) {
				w.t.Fatalf("Pass: %+v, error %d, want %+v", found, e, l)
			}
		},
	}
	const length = 5
	total := 1
	for range length {
		total *= len(steps)
	}
	for number := range total {
		w := newTwins(t, api.Geometry{K: 1, M: 1, Blocks: 2, Rows: 3})
		for rest, n := number, length; n > 0; rest, n = rest/len(steps), n-1 {
			steps[rest%len(steps)](w)
		}
		w.agree()
	}
}
