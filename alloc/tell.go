package alloc

import (
	"cmp"
	"slices"

	"granary/api"
)

// State: P10.2.
func (a *Alloc) State(b int) int {
	if !a.has(b) {
		return -1
	}
	return int(a.states[b])
}

// Blocks: P10.2.
func (a *Alloc) Blocks() int {
	if a == nil {
		return 0
	}
	return len(a.states)
}

// Free: P10.2.
func (a *Alloc) Free() int {
	if a == nil {
		return 0
	}
	return a.free
}

// Reserved: P10.2.
func (a *Alloc) Reserved() int {
	if a == nil {
		return 0
	}
	return a.reserved
}

// Taken: P10.2.
func (a *Alloc) Taken() []int { return a.asTheyCame(api.BlockTaken) }

// Given: P10.2.
func (a *Alloc) Given() []int { return a.asTheyCame(api.BlockGiven) }

// Bitmap: P10.7.
func (a *Alloc) Bitmap() []byte {
	out := make([]byte, bitmapBytes(a.Blocks()))
	for b := range a.Blocks() {
		switch a.states[b] {
		case api.BlockUsed, api.BlockGiven:
			setBit(out, b)
		}
	}
	return out
}

// Runs: P10.7.
func (a *Alloc) Runs() [][2]int {
	var out [][2]int
	going := false
	for b := range a.Blocks() {
		free := a.states[b] == api.BlockFree
		switch {
		case free && going:
			out[len(out)-1][1]++
		case free:
			out = append(out, [2]int{b, 1})
		}
		going = free
	}
	return out
}

// asTheyCame is the blocks of the state in the order in which they came to it.
func (a *Alloc) asTheyCame(state byte) []int {
	if a == nil {
		return nil
	}
	out := a.all(state)
	slices.SortFunc(out, func(x, y int) int { return cmp.Compare(a.came[x], a.came[y]) })
	return out
}

// bitmapBytes is how many bytes the bitmap of so many blocks has.
func bitmapBytes(blocks int) int { return (blocks + 7) / 8 }

// hasBit: the block's bit is set.
func hasBit(bitmap []byte, b int) bool { return bitmap[b/8]>>(b%8)&1 == 1 }

// setBit sets the block's bit.
func setBit(bitmap []byte, b int) { bitmap[b/8] |= 1 << (b % 8) }
