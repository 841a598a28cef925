package alloc_test

import (
	"bytes"
	"slices"
	"testing"

	"granary/alloc"
	"granary/api"
)

// TestHandedIn: the bytes that are handed to Load are not changed, their spare room neither, and not kept (rule 3).
func TestHandedIn(t *testing.T) {
	for _, blocks := range []int{1, 7, 8, 9, 12, 70} {
		for _, bits := range []byte{0x00, 0x01, 0x55, 0xff} {
			for _, length := range []int{0, (blocks + 7) / 8, (blocks + 15) / 8} {
				whole := bytes.Repeat([]byte{bits}, 40)
				a, e := alloc.Load(blocks, whole[:length])
				if !bytes.Equal(whole, bytes.Repeat([]byte{bits}, 40)) {
					t.Errorf("Load(%d, %x) has changed them", blocks, whole[:length])
				}
				if e != api.OK {
					continue
				}
				x := desk{t, a}
				x.stays("behind what was written over the bytes", func() { spoil(whole, ^bits) })
				before := slices.Clone(whole)
				for b := range blocks {
					x.a.Mark(b)
					x.a.Give(b)
				}
				x.a.Commit()
				if !bytes.Equal(whole, before) {
					t.Errorf("the bytes of Load(%d) are written to later", blocks)
				}
			}
		}
	}
}

// TestAnswersAreNew: whoever writes over an answer, its spare room too, changes nothing (rule 3).
func TestAnswersAreNew(t *testing.T) {
	for _, blocks := range []int{5, 9, 40, 70} {
		x := colours(t, blocks)
		before := x.seen()
		bitmap, taken, given, runs := x.a.Bitmap(), x.a.Taken(), x.a.Given(), x.a.Runs()
		other := x.seen()
		spoil(bitmap, 0xa5)
		spoil(taken, 77)
		spoil(given, 78)
		spoil(runs, [2]int{7, 9})
		x.is("behind what was written over answers", before)
		if !other.same(before) {
			t.Errorf("two answers share memory")
		}
	}
}

// TestCommitsAnswersAreNew: those of Commit and LetGo too (rule 3).
func TestCommitsAnswersAreNew(t *testing.T) {
	for _, blocks := range []int{5, 9, 40, 70} {
		x := colours(t, blocks)
		toldTaken, toldGiven := x.a.Taken(), x.a.Given()
		takenBefore, givenBefore := slices.Clone(toldTaken), slices.Clone(toldGiven)
		taken, given := x.a.Commit()
		kept := slices.Clone(given)
		x.stays("behind what was written over Commit's answer", func() { spoil(taken, 77) })
		if !slices.Equal(given, kept) {
			t.Errorf("the two lists of Commit share memory")
		}
		x.stays("behind what was written over Commit's answer", func() { spoil(given, 78) })
		told(t, "what Taken told", toldTaken, takenBefore...)
		told(t, "what Given told", toldGiven, givenBefore...)
		held := x.a.LetGo()
		if len(held) == 0 {
			t.Fatalf("nothing was held")
		}
		x.stays("behind what was written over LetGo's answer", func() { spoil(held, 79) })
	}
}

// TestToldIsOld: what was told stays, whatever is done behind it (rule 3).
func TestToldIsOld(t *testing.T) {
	dice := dice(3)
	x := made(t, 20)
	for range 400 {
		bitmap, taken, given, runs := x.a.Bitmap(), x.a.Taken(), x.a.Given(), x.a.Runs()
		a, b, c, d := slices.Clone(bitmap), slices.Clone(taken), slices.Clone(given), slices.Clone(runs)
		for range 4 {
			really(x.a, drawn(&dice, 20))
		}
		told(t, "an old Bitmap", bitmap, a...)
		told(t, "an old Taken", taken, b...)
		told(t, "an old Given", given, c...)
		told(t, "an old Runs", runs, d...)
	}
}

// TestCopy: a copy is like its original in all: also in the order of what was taken, and in what it does next (P10.7).
func TestCopy(t *testing.T) {
	dice := dice(71)
	eachBeginning(t, &dice, func(x both) {
		for range 40 {
			really(x.a, drawn(&dice, x.l.blocks))
		}
		y := desk{t, x.a.Copy()}
		for range 40 {
			y.is("a copy", x.seen())
			s := drawn(&dice, x.l.blocks)
			if a, b := really(x.a, s), really(y.a, s); a != b {
				t.Fatalf("%v: %v, and its copy %v", s, a, b)
			}
		}
	})
}

// TestCopyApart: neither a copy nor its original feels what is done to the other (P10.7).
func TestCopyApart(t *testing.T) {
	steps := []step{
		{"Take", 0}, {"TakeReserved", 0}, {"Give", 1}, {"Give", 2}, {"Mark", 5}, {"Reserve", 1}, {"Release", 1},
		{"Commit", 0}, {"Abort", 0}, {"Hold", 0}, {"LetGo", 0},
	}
	for _, s := range steps {
		for _, changeCopy := range []bool{true, false} {
			x := colours(t, 15)
			x.reserves(1)
			changed, left := desk{t, x.a.Copy()}, x
			if !changeCopy {
				changed, left = left, changed
			}
			before := x.seen()
			really(changed.a, s)
			left.is("the one that was left alone", before)
			if changed.seen().same(before) {
				t.Errorf("%v does nothing", s)
			}
		}
	}
	dice := dice(72)
	for range 100 {
		x := made(t, 12)
		for range 60 {
			y := desk{t, x.a.Copy()}
			y.stays("a copy", func() { really(x.a, drawn(&dice, 12)) })
			x.stays("a copy's original", func() { really(y.a, drawn(&dice, 12)) })
		}
	}
}

// TestTwoAllocators: one knows nothing of another (rule 4).
func TestTwoAllocators(t *testing.T) {
	x, y := made(t, 9), made(t, 9)
	y.stays("another", func() {
		x.takes(3, 3)
		x.a.Commit()
		x.a.Hold()
		x.gives(3)
		x.a.Commit()
		x.reserves(2)
		x.takes(1, 1)
	})
	y.takes(3, 3)
	y.counts(8, 0)
}
