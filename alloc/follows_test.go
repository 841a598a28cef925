package alloc_test

import (
	"slices"
	"strings"
	"testing"

	"granary/alloc"
	"granary/api"
)

// conserved: each block is in one state, Free counts those that are free, Taken and Given are those in these states, none is held when nobody holds, and what is reserved is free (P10.8).
func (x desk) conserved() {
	x.t.Helper()
	count := map[byte]int{}
	letters := x.letters()
	for i := range letters {
		count[letters[i]]++
	}
	if count['f'] != x.a.Free() || len(letters) != x.a.Blocks() {
		x.t.Errorf("the states are %s, Free %d of %d", letters, x.a.Free(), x.a.Blocks())
	}
	for letter, list := range map[byte][]int{'t': x.a.Taken(), 'g': x.a.Given()} {
		if len(list) != count[letter] || slices.ContainsFunc(list, func(b int) bool { return letters[b] != letter }) {
			x.t.Errorf("the states are %s, and of %c %v", letters, letter, list)
		}
	}
	if x.a.Holds() == 0 && count['h'] > 0 {
		x.t.Errorf("the states are %s, and nobody holds", letters)
	}
	if r := x.a.Reserved(); r < 0 || x.a.Free() < r {
		x.t.Errorf("Free %d, Reserved %d", x.a.Free(), r)
	}
}

// TestConservation: P10.8, behind each call of drawn scripts.
func TestConservation(t *testing.T) {
	dice := dice(8)
	eachBeginning(t, &dice, func(x both) {
		blocks := x.a.Blocks()
		for range 200 {
			really(x.a, drawn(&dice, blocks))
			x.conserved()
			if x.a.Blocks() != blocks {
				t.Fatalf("%d blocks, and there were %d", x.a.Blocks(), blocks)
			}
		}
	})
}

// TestOldStateStays: no block that was used, given or held at a transaction's beginning is answered in it, but those that LetGo set free (P10.9).
func TestOldStateStays(t *testing.T) {
	dice := dice(9)
	answered, again := 0, 0
	eachBeginning(t, &dice, func(x both) {
		blocks := x.a.Blocks()
		old := x.letters()
		var free []int
		for range 300 {
			s := drawn(&dice, blocks)
			if s.kind == "LetGo" {
				free = append(free, x.a.LetGo()...)
				continue
			}
			got := really(x.a, s)
			switch s.kind {
			case "Commit", "Abort":
				old, free = x.letters(), nil
			case "Take", "TakeReserved":
				if got.e != api.OK {
					continue
				}
				answered++
				if old[got.n] == 'f' {
					continue
				}
				again++
				if !slices.Contains(free, got.n) {
					t.Fatalf("%v: %d, which was %c at the beginning", s, got.n, old[got.n])
				}
			}
		}
	})
	if answered < 1000 || again < 50 {
		t.Errorf("of %d answers %d were set free by LetGo: too few to tell anything", answered, again)
	}
}

// TestThereAndBack: Load of Bitmap has the committed state, and Abort leads to it, but for what is reserved and held (P10.10).
func TestThereAndBack(t *testing.T) {
	dice := dice(101)
	eachBeginning(t, &dice, func(x both) {
		blocks := x.a.Blocks()
		for range 60 {
			really(x.a, drawn(&dice, blocks))
			back := loaded(t, blocks, x.a.Bitmap()...)
			committed := strings.NewReplacer("g", "u", "t", "f", "h", "f").Replace(x.letters())
			back.states(committed)
			back.counts(strings.Count(committed, "f"), 0)
			back.holds(0)
			told(t, "Taken", back.a.Taken())
			told(t, "Given", back.a.Given())
			back.bitmap(x.a.Bitmap()...)

			aborted := desk{t, x.a.Copy()}
			aborted.a.Abort()
			aborted.states(strings.NewReplacer("g", "u", "t", "f").Replace(x.letters()))
			aborted.bitmap(x.a.Bitmap()...)
			told(t, "Taken", aborted.a.Taken())
			told(t, "Given", aborted.a.Given())
			if aborted.a.Reserved() != x.a.Reserved() || aborted.a.Holds() != x.a.Holds() {
				t.Errorf("Abort has changed what is reserved, or who holds")
			}
			want(t, "Release", aborted.a.Release(aborted.a.Reserved()), api.OK)
			for aborted.a.Holds() > 0 {
				aborted.a.LetGo()
			}
			aborted.is("without what is reserved and held", back.seen())
		}
	})
}

// TestOneBitmap: two allocators with one bitmap answer the same, also where one of them has come to it by a script (P10.10).
func TestOneBitmap(t *testing.T) {
	dice := dice(102)
	eachBeginning(t, &dice, func(x both) {
		blocks := x.a.Blocks()
		for range 80 {
			really(x.a, drawn(&dice, blocks))
		}
		x.a.Abort()
		x.a.Release(x.a.Reserved())
		for x.a.Holds() > 0 {
			x.a.LetGo()
		}
		bitmap := x.a.Bitmap()
		y, z := loaded(t, blocks, bitmap...), loaded(t, blocks, bitmap...)
		for range 80 {
			s := drawn(&dice, blocks)
			wanted := really(x.a, s)
			for _, other := range []desk{y, z} {
				if got := really(other.a, s); got != wanted {
					t.Fatalf("%v: %v, and another with this bitmap %v", s, got, wanted)
				}
				other.is("another with this bitmap", x.seen())
			}
		}
	})
}

// TestReservedIsThere: behind Reserve(n) n calls of TakeReserved succeed, whatever comes between but calls that use or release what is reserved (P10.11).
func TestReservedIsThere(t *testing.T) {
	dice := dice(11)
	eachBeginning(t, &dice, func(x both) {
		blocks := x.a.Blocks()
		for range 12 {
			really(x.a, drawn(&dice, blocks))
		}
		n := dice.below(1 + x.a.Free() - x.a.Reserved())
		x.reserves(n)
		just := dice.below(2) == 0
		for range n {
			for range dice.below(2 * blocks) {
				between(&dice, x.a, just)
			}
			free, reserved := x.a.Free(), x.a.Reserved()
			b, e := x.a.TakeReserved(dice.below(blocks))
			if e != api.OK {
				t.Fatalf("TakeReserved: error %d, with %d free and %d reserved", e, free, reserved)
			}
			x.state(b, api.BlockTaken)
			x.counts(free-1, reserved-1)
		}
	})
}

// between makes a drawn call, just of Take or of any that leaves alone what is reserved.
func between(dice *dice, a *alloc.Alloc, just bool) {
	s := drawn(dice, a.Blocks())
	switch {
	case just:
		a.Take(s.n)
	case s.kind != "TakeReserved" && s.kind != "Release" && s.kind != "Reserve":
		really(a, s)
	}
}

// TestAllThatIsReserved: all that can be reserved is taken to the last, and Take has none of it (P10.11).
func TestAllThatIsReserved(t *testing.T) {
	for _, blocks := range []int{1, 2, 9, 70} {
		for n := range blocks + 1 {
			x := made(t, blocks)
			x.reserves(n)
			for b := range blocks - n {
				x.takes(0, b)
			}
			x.takesNone(0, api.ErrSpace)
			for i := range n {
				x.takesReserved(blocks-1-i, blocks-1-i)
				x.takesNone(0, api.ErrSpace)
			}
			x.takesNoneReserved(0, api.ErrSpace)
			x.counts(0, 0)
		}
	}
}
