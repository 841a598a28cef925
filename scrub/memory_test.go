package scrub_test

import (
	"bytes"
	"slices"
	"testing"

	"granary/api"
	"granary/scrub"
)

// TestStepSharesNothing: whoever writes over what a step found changes nothing (rule 3).
func TestStepSharesNothing(t *testing.T) {
	s := scrub.New(sickly(t))
	for n, found := range inSickly(0, 12) {
		got, e := s.Step()
		if e != api.OK || !sameScan(got, found) {
			t.Fatalf("Step: %+v, error %d, want %+v", got, e, found)
		}
		spoil(got.Wrong, -9)
		stands(t, s, (n+1)%4, counted(n+1))
	}
}

// TestListsShareNothing: the lists of one answer, and of two, have nothing in common (rule 3).
func TestListsShareNothing(t *testing.T) {
	s := scrub.New(sickly(t))
	first, _ := s.Run(9)
	second, _ := s.Pass()
	for i := range first {
		if !sameScan(first[i], inSickly(0, 9)[i]) {
			t.Errorf("the step %d: %+v", i, first[i])
		}
		spoil(first[i].Wrong, -9)
	}
	spoil(first, api.Scan{Block: -9})
	if !slices.EqualFunc(second, inSickly(9, 3), sameScan) {
		t.Errorf("Pass: %+v", second)
	}
	for i := range second {
		spoil(second[i].Wrong, -9)
	}
	spoil(second, api.Scan{Block: -9})
	stands(t, s, 0, counted(12))
	if third, _ := s.Run(4); !slices.EqualFunc(third, inSickly(12, 4), sameScan) {
		t.Errorf("Run: %+v", third)
	}
}

// TestTallySharesNothing: the list of what is gone is new each time, its spare room too, while blocks go and come back (rule 3).
func TestTallySharesNothing(t *testing.T) {
	g := api.Geometry{K: 1, M: 0, Blocks: 5, Rows: 12}
	d, disks := made(t, g, 5)
	s := scrub.New(d)
	check := func(gone ...int) {
		t.Helper()
		want(t, "Flush", d.Flush(), api.OK)
		passes(t, s, 5)
		first, second := s.Tally().Gone, s.Tally().Gone
		spoil(first, -9)
		if !slices.Equal(second, gone) {
			t.Errorf("Gone %v, want %v", second, gone)
		}
		spoil(second, -9)
		if got := loaded(t, d, s.Save()).Tally().Gone; !slices.Equal(got, gone) {
			t.Errorf("loaded: Gone %v, want %v", got, gone)
		}
	}
	for _, row := range []int{3, 1, 4, 0} {
		disks[0].Lose(row)
	}
	check(0, 1, 3, 4)
	disks[0].Lose(2)
	check(0, 1, 2, 3, 4)
	for _, b := range []int{4, 0} {
		d.Write(b, full('n'))
	}
	check(1, 2, 3)
	d.Write(2, full('n'))
	check(1, 3)
	d.Write(3, full('n'))
	d.Write(1, full('n'))
	check()
}

// TestSaveSharesNothing: what is saved is new each time (rule 3).
func TestSaveSharesNothing(t *testing.T) {
	d := sickly(t)
	s := scrub.New(d)
	for n := range 9 {
		first, second, good := s.Save(), s.Save(), bytes.Clone(s.Save())
		spoil(first, 0xee)
		if !bytes.Equal(second, good) {
			t.Error("two answers share bytes")
		}
		spoil(second, 0xee)
		stands(t, s, n%4, counted(n))
		if !bytes.Equal(s.Save(), good) {
			t.Error("the scrubber shares bytes with an answer")
		}
		passes(t, s, 1)
	}
}

// TestLoadKeepsNothing: the bytes are neither changed nor kept, their spare room neither (rule 3).
func TestLoadKeepsNothing(t *testing.T) {
	d := sickly(t)
	s := scrub.New(d)
	passes(t, s, 7)
	good := s.Save()
	for _, p := range [][]byte{good, good[:len(good)-1], good[:8], nil, bytes.Repeat([]byte{7}, 64)} {
		room := append(bytes.Clone(p), "spare room"...)
		kept := bytes.Clone(room)
		got, e := scrub.Load(d, room[:len(p)])
		if !bytes.Equal(room, kept) {
			t.Error("Load changed what it was handed")
		}
		if (e == api.OK) != (len(p) == len(good)) {
			t.Errorf("Load of %d bytes: error %d", len(p), e)
		}
		spoil(room, 0xee)
		if e != api.OK {
			continue
		}
		stands(t, got, 3, counted(7))
		if !bytes.Equal(got.Save(), good) {
			t.Error("the scrubber shares bytes with what was handed in")
		}
		passes(t, got, 5)
	}
}

// TestAskingChangesNothing: calls that only tell leave the scrubber, the device and its disks as they were.
func TestAskingChangesNothing(t *testing.T) {
	d := sickly(t)
	s := scrub.New(d)
	for n := range 6 {
		d.Write(1, full('w'))
		before := copies(d.Disks())
		save := s.Save()
		for range 3 {
			s.At()
			s.Tally()
			s.Save()
			scrub.Load(d, save)
			scrub.Load(d, save[1:])
			scrub.New(d)
		}
		if !bytes.Equal(s.Save(), save) || s.At() != n%4 {
			t.Error("a call that tells has changed the scrubber")
		}
		untouched(t, "asked", d.Disks(), before)
		passes(t, s, 1)
		d.Flush()
	}
}

// TestDeviceIsUsed: the device that is handed in is the one that is healed (rule 3).
func TestDeviceIsUsed(t *testing.T) {
	d, disks := made(t, small, 3)
	s := scrub.New(d)
	other, others := made(t, small, 3)
	disks[0].Lose(0)
	others[0].Lose(0)
	again := loaded(t, other, s.Save())
	finds(t, s, api.Scan{Kind: api.ScanHealed, Wrong: []int{0}})
	looks(t, d, 0, "RRR")
	looks(t, other, 0, "WRR")
	finds(t, again, api.Scan{Kind: api.ScanHealed, Wrong: []int{0}})
	looks(t, other, 0, "RRR")
}
