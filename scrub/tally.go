package scrub

import (
	"slices"

	"granary/api"
)

// Tally: P7.4.
func (s *Scrub) Tally() api.Tally {
	if s == nil {
		return api.Tally{}
	}
	return api.Tally{
		Steps:  s.steps,
		Passes: s.steps / s.blocks(),
		Right:  s.right,
		Wrong:  s.wrong,
		Healed: s.healed,
		Gone:   slices.Clone(s.gone),
	}
}

// count takes what a step found into the tally; what its Heal told is there already.
func (s *Scrub) count(found *api.Scan) {
	s.steps++
	s.wrong += uint64(len(found.Wrong))
	switch found.Kind {
	case api.ScanGone:
		s.gone = with(s.gone, found.Block)
		return
	case api.ScanRight:
		s.right++
	}
	s.gone = without(s.gone, found.Block)
}

// with is a rising list and the block in it. What is ahead of the block's place has no spare room: so append copies it, and what is behind stays as it was until it is copied too.
func with(l []int, b int) []int {
	at, there := slices.BinarySearch(l, b)
	if there {
		return l
	}
	return append(append(l[:at:at], b), l[at:]...)
}

// without is a rising list without the block.
func without(l []int, b int) []int {
	at, there := slices.BinarySearch(l, b)
	if !there {
		return l
	}
	return append(l[:at:at], l[at+1:]...)
}
