package catalog

import "granary/api"

// CheckPolicy: P18.1.
func CheckPolicy(p api.Policy) api.Errno {
	if p.Last < 0 || len(p.Rules) > api.MaxRules {
		return api.ErrPolicy
	}
	for _, r := range p.Rules {
		if r.Every == 0 || r.Count < 0 {
			return api.ErrPolicy
		}
	}
	return api.OK
}

// Keep: P18.2.
func Keep(p api.Policy, ticks []uint64) []bool {
	kept := make([]bool, len(ticks))
	if CheckPolicy(p) != api.OK {
		keepLast(kept, len(kept))
		return kept
	}
	keepLast(kept, p.Last)
	for _, r := range p.Rules {
		keepBoxes(kept, ticks, r)
	}
	return kept
}

// keepLast keeps the last n, or all, if there are no more.
func keepLast(kept []bool, n int) {
	for i := max(0, len(kept)-n); i < len(kept); i++ {
		kept[i] = true
	}
}

// keepBoxes keeps the last tick of each box that the rule looks at. From the last tick on, since so the boxes come from the greatest on, and the last tick of each ahead of its others.
func keepBoxes(kept []bool, ticks []uint64, r api.Rule) {
	boxes := map[uint64]struct{}{}
	for i := len(ticks) - 1; i >= 0 && len(boxes) < r.Count; i-- {
		box := ticks[i] / r.Every
		if _, met := boxes[box]; !met {
			boxes[box] = struct{}{}
			kept[i] = true
		}
	}
}
