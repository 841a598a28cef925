package scrub_test

import (
	"bytes"
	"slices"
	"testing"

	"granary/api"
	"granary/scrub"
	"granary/stripe"
)

// TestSaveBetweenSteps: between any two steps; what is loaded stands where the other stood, and finds the same (P7.5, P7.7).
func TestSaveBetweenSteps(t *testing.T) {
	for first := range 13 {
		d := sickly(t)
		s := scrub.New(d)
		passes(t, s, first)
		save := s.Save()
		stands(t, s, first%4, counted(first))
		again := loaded(t, d, save)
		stands(t, again, first%4, counted(first))
		if !bytes.Equal(again.Save(), save) || !bytes.Equal(s.Save(), save) {
			t.Errorf("behind %d steps: %x, loaded %x", first, save, again.Save())
		}
		for n, found := range inSickly(first, 9) {
			finds(t, again, found)
			stands(t, again, (first+n+1)%4, counted(first+n+1))
		}
		// The one that was saved goes on by itself.
		stands(t, s, first%4, counted(first))
	}
}

// TestOneForm: scrubbers that stand alike save alike, on whatever device they came there; others do not (P7.5).
func TestOneForm(t *testing.T) {
	forms := map[string]string{}
	dice := dice(75)
	for range 60 {
		g := api.Geometry{K: 1 + dice.below(2), M: 1, Blocks: 1 + dice.below(3), Rows: 6}
		d, disks := made(t, g, dice.below(g.Blocks+1))
		s := scrub.New(d)
		for range 12 {
			disks[dice.below(len(disks))].Lose(dice.below(3))
			passes(t, s, 1)
			if dice.below(4) == 0 {
				s = loaded(t, d, s.Save())
			}
			state := stateText(g.Blocks, s)
			if form, ok := forms[state]; ok && form != string(s.Save()) {
				t.Fatalf("two forms of %s: %x, %x", state, form, s.Save())
			}
			forms[state] = string(s.Save())
		}
	}
	states := map[string]string{}
	for state, form := range forms {
		if other, ok := states[form]; ok {
			t.Fatalf("%x is the form of %s and of %s", form, state, other)
		}
		states[form] = state
	}
	if len(states) < 100 {
		t.Errorf("%d states alone", len(states))
	}
}

// stateText tells a scrubber's state apart from all others.
func stateText(blocks int, s *scrub.Scrub) string {
	y := s.Tally()
	out := []byte{byte(blocks), byte(s.At())}
	for _, n := range []uint64{y.Steps, y.Passes, y.Right, y.Wrong, y.Healed} {
		out = append(out, byte(n), byte(n>>8))
	}
	for _, b := range y.Gone {
		out = append(out, byte(b))
	}
	return string(out)
}

// TestOtherBlocks: a Save is loaded on devices with as many blocks, whatever they are like besides, and on no others (P7.5).
func TestOtherBlocks(t *testing.T) {
	for first := range 9 {
		s := scrub.New(sickly(t))
		passes(t, s, first)
		save := s.Save()
		everyCount(4, 5, func(g api.Geometry) {
			for blocks := 1; blocks <= 8; blocks++ {
				g.Blocks, g.Rows = blocks, blocks+1+first
				d, disks := made(t, g, 1)
				before := copies(disks)
				if blocks != 4 {
					refused(t, "other blocks", d, save, api.ErrCursor)
				} else {
					stands(t, loaded(t, d, save), first%4, counted(first))
				}
				untouched(t, "Load", disks, before)
			}
		})
	}
}

// TestLoadNone: no device is told ahead of what the bytes are (P7.5).
func TestLoadNone(t *testing.T) {
	d := sickly(t)
	s := scrub.New(d)
	passes(t, s, 3)
	for _, p := range [][]byte{s.Save(), nil, {}, {1, 2, 3}, s.Save()[1:]} {
		refused(t, "no device", nil, p, api.ErrNone)
	}
	refused(t, "nil", d, nil, api.ErrCursor)
	refused(t, "no bytes", d, []byte{}, api.ErrCursor)
	var none *scrub.Scrub
	refused(t, "what a nil scrubber saves", d, none.Save(), api.ErrCursor)
}

// mayLoad: either it is refused, or what is loaded saves just these bytes; whatever it is, its calls end.
func mayLoad(t *testing.T, name string, d *stripe.Device, p []byte) {
	t.Helper()
	s, e := scrub.Load(d, p)
	if e != api.OK {
		if e != api.ErrCursor || s != nil {
			t.Errorf("%s: %v, error %d", name, s, e)
		}
		return
	}
	if got := s.Save(); !bytes.Equal(got, p) {
		t.Errorf("%s: %x is saved as %x", name, p, got)
	}
	if at := s.At(); at < 0 || at >= 4 {
		t.Errorf("%s: At %d", name, at)
	}
	gone := s.Tally().Gone
	for i, b := range gone {
		if b < 0 || b >= 4 || i > 0 && b <= gone[i-1] {
			t.Errorf("%s: Gone %v", name, gone)
		}
	}
	if l, e := s.Pass(); e != api.OK || len(l) < 1 || len(l) > 4 || s.At() != 0 {
		t.Errorf("%s: Pass: %+v, error %d", name, l, e)
	}
	again := loaded(t, d, s.Save())
	stands(t, again, s.At(), s.Tally())
}

// TestSpoiledSaves: every Save cut short by each length, with each byte changed in turn, and with bytes more, ahead or behind (P7.5).
func TestSpoiledSaves(t *testing.T) {
	d := sickly(t)
	s := scrub.New(d)
	other, _ := made(t, api.Geometry{K: 1, M: 1, Blocks: 4, Rows: 5}, 3)
	for range 9 {
		save := s.Save()
		for i := range save {
			refused(t, "cut short", d, save[:i], api.ErrCursor)
			mayLoad(t, "cut short ahead", other, save[i+1:])
			for b := range 255 {
				p := bytes.Clone(save)
				p[i] += byte(b + 1)
				mayLoad(t, "changed", other, p)
			}
		}
		for b := range 256 {
			refused(t, "a byte more", d, append(bytes.Clone(save), byte(b)), api.ErrCursor)
			mayLoad(t, "a byte more ahead", other, append([]byte{byte(b)}, save...))
		}
		for more := 2; more <= len(save); more++ {
			refused(t, "bytes more", d, append(bytes.Clone(save), save[len(save)-more:]...), api.ErrCursor)
			refused(t, "zeros more", d, append(bytes.Clone(save), make([]byte, more)...), api.ErrCursor)
		}
		passes(t, s, 1)
	}
}

// TestDrawnBytes: bytes of all lengths that nobody saved (P7.5).
func TestDrawnBytes(t *testing.T) {
	dice := dice(76)
	d, _ := made(t, api.Geometry{K: 1, M: 1, Blocks: 4, Rows: 5}, 3)
	for n := range 200 {
		for range 5 {
			p := make([]byte, n)
			for i := range p {
				if dice.below(8) == 0 {
					p[i] = byte(dice.below(9))
				}
				if dice.below(40) == 0 {
					p[i] = byte(dice.below(256))
				}
			}
			if n > 7 {
				copy(p, []byte{0, 0, 0, 0, 0, 0, 0, 4})
			}
			mayLoad(t, "drawn", d, p)
		}
	}
}

// TestNil: every method of a nil Scrub (P7.5).
func TestNil(t *testing.T) {
	var s *scrub.Scrub
	if found, e := s.Step(); e != api.ErrNone || !sameScan(found, api.Scan{}) {
		t.Errorf("Step: %+v, error %d", found, e)
	}
	for _, n := range []int{-1, 0, 1, 65536, 65537} {
		if l, e := s.Run(n); e != api.ErrNone || len(l) != 0 {
			t.Errorf("Run(%d): %v, error %d", n, l, e)
		}
	}
	if l, e := s.Pass(); e != api.ErrNone || len(l) != 0 {
		t.Errorf("Pass: %v, error %d", l, e)
	}
	stands(t, s, 0, api.Tally{})
	if p := s.Save(); len(p) != 0 {
		t.Errorf("Save: %x", p)
	}
}

// TestLoadedAlone: two scrubbers of one Save, and the one that was saved, have each their own tally (P7.5).
func TestLoadedAlone(t *testing.T) {
	d := sickly(t)
	s := scrub.New(d)
	passes(t, s, 3)
	save := s.Save()
	a, b := loaded(t, d, save), loaded(t, d, save)
	want(t, "Write", d.Write(2, full('n')), api.OK)
	passes(t, a, 4)
	if l := a.Tally().Gone; len(l) != 0 {
		t.Errorf("Gone %v", l)
	}
	for _, each := range []*scrub.Scrub{b, s} {
		if l := each.Tally().Gone; each.At() != 3 || !slices.Equal(l, []int{2}) {
			t.Errorf("At %d, Gone %v", each.At(), l)
		}
	}
}
