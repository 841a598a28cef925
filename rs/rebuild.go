package rs

import (
	"granary/api"
	"granary/gf"
)

// Rebuild: P3.5.
func (c *Code) Rebuild(shards [][]byte, have []bool) ([][]byte, api.Errno) {
	if c == nil {
		return nil, api.ErrNone
	}
	if len(shards) != c.k+c.m || len(have) != c.k+c.m {
		return nil, api.ErrArg
	}
	held, which := atHand(shards, have)
	n, e := shardLength(held, len(held))
	if e != api.OK {
		return nil, e
	}
	if len(held) < c.k {
		return nil, api.ErrFew
	}
	data, e := c.solve(held[:c.k], which[:c.k], n)
	if e != api.OK {
		return nil, e
	}
	out := make([][]byte, c.k+c.m)
	for i := range out {
		if have[i] {
			out[i] = copyOf(shards[i])
		} else {
			out[i] = sumOf(c.row(i), data, n)
		}
	}
	return out, api.OK
}

// atHand is the shards with have, in their order, and their numbers.
func atHand(shards [][]byte, have []bool) ([][]byte, []int) {
	var held [][]byte
	var which []int
	for i, p := range shards {
		if have[i] {
			held = append(held, p)
			which = append(which, i)
		}
	}
	return held, which
}

// solve is the k data shards of which the held ones, k of them, are the shards with these numbers. (Of data at hand the inverse has just a 1 in the row.)
func (c *Code) solve(held [][]byte, which []int, n int) ([][]byte, api.Errno) {
	back, e := gf.Inverse(c.rows(which))
	if e != api.OK {
		return nil, e
	}
	data := make([][]byte, c.k)
	for j := range data {
		data[j] = sumOf(rowOf(back.Cells, j, c.k), held, n)
	}
	return data, api.OK
}

// rows is the matrix of the rows with these numbers, k of them.
func (c *Code) rows(which []int) api.Matrix {
	cells := make([]byte, c.k*c.k)
	for r, i := range which {
		copy(rowOf(cells, r, c.k), c.row(i))
	}
	return api.Matrix{Rows: c.k, Cols: c.k, Cells: cells}
}
