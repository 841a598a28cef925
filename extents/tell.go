package extents

import "slices"

// Count: P14.5.
func (c *Contents) Count(ino uint64) int { return len(c.Pieces(ino)) }

// Pieces: P14.5.
func (c *Contents) Pieces(ino uint64) []int {
	var out []int
	for _, x := range c.pieces(ino, 0, mostPieces) {
		out = append(out, x.number)
	}
	return out
}

// Stretches: P14.5.
func (c *Contents) Stretches(ino uint64) [][2]int {
	var out [][2]int
	for _, number := range c.Pieces(ino) {
		last := len(out) - 1
		if last >= 0 && out[last][0]+out[last][1] == number {
			out[last][1]++
		} else {
			out = append(out, [2]int{number, 1})
		}
	}
	return out
}

// Numbers: P14.5.
func (c *Contents) Numbers() []uint64 {
	var out []uint64
	for _, x := range c.all() {
		out = append(out, x.ino)
	}
	return slices.Compact(out)
}

// Blocks: P14.6.
func (c *Contents) Blocks() []int {
	var out []int
	for _, x := range c.all() {
		out = append(out, x.block)
	}
	slices.Sort(out)
	return out
}

// Gone: P14.6.
func (c *Contents) Gone() []int {
	if c.ended() {
		return nil
	}
	return slices.Sorted(slices.Values(c.gone))
}

// Fresh: P14.6.
func (c *Contents) Fresh() []int {
	if c.ended() {
		return nil
	}
	return c.own()
}
