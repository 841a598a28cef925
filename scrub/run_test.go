package scrub_test

import (
	"bytes"
	"math"
	"slices"
	"testing"

	"granary/api"
	"granary/scrub"
	"granary/stripe"
)

// sickly is a device of which one block is right, one lies nowhere, one is gone, and one can be healed.
func sickly(t *testing.T) *stripe.Device {
	t.Helper()
	g := api.Geometry{K: 2, M: 2, Blocks: 4, Rows: 9}
	d, disks := made(t, g, 1)
	for _, b := range []int{2, 3} {
		want(t, "Write", d.Write(b, full(byte('a'+b))), api.OK)
	}
	want(t, "Flush", d.Flush(), api.OK)
	for i := range 3 {
		disks[3-i].Lose(1)
	}
	disks[0].Lose(2)
	disks[2].Turn(2, 1000, 5)
	return d
}

// inSickly is what the next n steps find from that step on.
func inSickly(from, n int) []api.Scan {
	out := make([]api.Scan, n)
	for i := range out {
		out[i].Block = (from + i) % 4
		switch out[i].Block {
		case 0:
			out[i].Kind = api.ScanRight
		case 2:
			out[i].Kind, out[i].Wrong = api.ScanGone, []int{1, 2, 3}
		case 3:
			out[i].Kind = api.ScanRight
			if from+i == 3 {
				out[i].Kind, out[i].Wrong = api.ScanHealed, []int{0, 2}
			}
		}
	}
	return out
}

// counted is the tally behind so many steps there.
func counted(steps int) api.Tally {
	out := api.Tally{Steps: uint64(steps), Passes: uint64(steps / 4)}
	for _, found := range inSickly(0, steps) {
		out.Wrong += uint64(len(found.Wrong))
		switch found.Kind {
		case api.ScanRight:
			out.Right++
		case api.ScanHealed:
			out.Healed += 2
		case api.ScanGone:
			out.Gone = []int{2}
		}
	}
	return out
}

// TestRun: the steps, one behind the other (P7.3).
func TestRun(t *testing.T) {
	for _, first := range []int{0, 1, 3, 4, 6} {
		for _, n := range []int{0, 1, 2, 4, 5, 65536} {
			s := scrub.New(sickly(t))
			passes(t, s, first)
			got, e := s.Run(n)
			if e != api.OK || !slices.EqualFunc(got, inSickly(first, n), sameScan) {
				t.Fatalf("Run(%d) behind %d steps: %d found, error %d", n, first, len(got), e)
			}
			stands(t, s, (first+n)%4, counted(first+n))
		}
	}
}

// TestRunRefused: numbers of steps that may not be: nothing is found, and nothing has changed (P7.3).
func TestRunRefused(t *testing.T) {
	for first := range 6 {
		d := sickly(t)
		s := scrub.New(d)
		passes(t, s, first)
		save, before := s.Save(), copies(d.Disks())
		for _, n := range []int{-1, -2, math.MinInt, 65537, 65538, math.MaxInt, 1 << 32} {
			if got, e := s.Run(n); e != api.ErrArg || len(got) != 0 {
				t.Errorf("Run(%d): %v, error %d", n, got, e)
			}
		}
		stands(t, s, first%4, counted(first))
		if !bytes.Equal(s.Save(), save) {
			t.Error("a Run that was refused has changed the scrubber")
		}
		untouched(t, "refused", d.Disks(), before)
	}
}

// TestPass: steps until a pass is over, from its beginning or from the middle (P7.3).
func TestPass(t *testing.T) {
	for first := range 10 {
		s := scrub.New(sickly(t))
		passes(t, s, first)
		at := first
		for range 3 {
			n := 4 - at%4
			got, e := s.Pass()
			if e != api.OK || !slices.EqualFunc(got, inSickly(at, n), sameScan) {
				t.Fatalf("Pass behind %d steps: %+v, error %d, want %+v", at, got, e, inSickly(at, n))
			}
			at += n
			stands(t, s, 0, counted(at))
		}
	}
}

// TestPassOfOne: on a device of one block each step is a pass (P7.3).
func TestPassOfOne(t *testing.T) {
	d, _ := made(t, api.Geometry{K: 1, M: 0, Blocks: 1, Rows: 2}, 1)
	s := scrub.New(d)
	for n := range 3 {
		got, e := s.Pass()
		if e != api.OK || len(got) != 1 || !sameScan(got[0], api.Scan{Kind: api.ScanRight}) {
			t.Fatalf("Pass: %+v, error %d", got, e)
		}
		stands(t, s, 0, api.Tally{Steps: uint64(n + 1), Passes: uint64(n + 1), Right: uint64(n + 1)})
	}
}

// TestGreatest: the greatest device, with a disk replaced, and then with all that can fail failed (P7.3, P7.4, P7.6).
func TestGreatest(t *testing.T) {
	d, disks := made(t, api.Geometry{K: 4, M: 1, Blocks: 4096, Rows: 4097}, 4096)
	whole := copies(disks)
	disks[3].Replace()
	s := scrub.New(d)
	got, e := s.Pass()
	if e != api.OK || len(got) != 4096 {
		t.Fatalf("Pass: %d found, error %d", len(got), e)
	}
	for b, found := range got {
		if !sameScan(found, api.Scan{Block: b, Kind: api.ScanHealed, Wrong: []int{3}}) {
			t.Fatalf("the block %d: %+v", b, found)
		}
	}
	stands(t, s, 0, api.Tally{Steps: 4096, Passes: 1, Wrong: 4096, Healed: 4096})
	for i, each := range disks {
		for row := range 4097 {
			p, _ := each.Stable(row)
			q, _ := whole[i].Stable(row)
			if !bytes.Equal(p, q) {
				t.Fatalf("the sector %d of the disk %d is not what it was", row, i)
			}
		}
	}
	disks[0].Fail()
	disks[1].Fail()
	tally := api.Tally{Steps: 65536, Passes: 16, Wrong: 4096, Healed: 4096}
	for b := range 4096 {
		tally.Gone = append(tally.Gone, b)
	}
	if _, e := s.Run(65536 - 4096); e != api.OK {
		t.Errorf("Run: error %d", e)
	}
	stands(t, s, 0, tally)
	stands(t, loaded(t, d, s.Save()), 0, tally)
}
