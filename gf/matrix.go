package gf

import (
	"slices"

	"granary/api"
)

// Check: P2.4.
func Check(m api.Matrix) api.Errno {
	if !isSide(m.Rows) || !isSide(m.Cols) {
		return api.ErrArg
	}
	if len(m.Cells) != m.Rows*m.Cols {
		return api.ErrSide
	}
	return api.OK
}

func isSide(n int) bool { return n >= 1 && n <= api.MaxSide }

// Make: P2.4.
func Make(rows, cols int, cells []byte) (api.Matrix, api.Errno) {
	m := api.Matrix{Rows: rows, Cols: cols, Cells: cells}
	if e := Check(m); e != api.OK {
		return api.Matrix{}, e
	}
	return filled(rows, cols, func(r, c int) byte { return at(m, r, c) }), api.OK
}

// filled is the matrix of these sides with what cell tells of each row and column.
func filled(rows, cols int, cell func(r, c int) byte) api.Matrix {
	cells := make([]byte, rows*cols)
	for r := range rows {
		for c := range cols {
			cells[r*cols+c] = cell(r, c)
		}
	}
	return api.Matrix{Rows: rows, Cols: cols, Cells: cells}
}

func at(m api.Matrix, r, c int) byte { return m.Cells[r*m.Cols+c] }

// Identity: P2.5.
func Identity(n int) (api.Matrix, api.Errno) {
	if !isSide(n) {
		return api.Matrix{}, api.ErrArg
	}
	return filled(n, n, one), api.OK
}

// one is what the identity has in the row r and the column c.
func one(r, c int) byte {
	if r == c {
		return 1
	}
	return 0
}

// Powers: P2.5.
func Powers(rows, cols int) (api.Matrix, api.Errno) {
	if !isSide(rows) || !isSide(cols) {
		return api.Matrix{}, api.ErrArg
	}
	f := newField()
	return filled(rows, cols, func(r, c int) byte { return f.pow(byte(r), c) }), api.OK
}

// Product: P2.6.
func Product(a, b api.Matrix) (api.Matrix, api.Errno) {
	if e := Check(a); e != api.OK {
		return api.Matrix{}, e
	}
	if e := Check(b); e != api.OK {
		return api.Matrix{}, e
	}
	if a.Cols != b.Rows {
		return api.Matrix{}, api.ErrSide
	}
	f := newField()
	return filled(a.Rows, b.Cols, func(r, c int) byte {
		var sum byte
		for i := range a.Cols {
			sum ^= f.mul(at(a, r, i), at(b, i, c))
		}
		return sum
	}), api.OK
}

// Turn: P2.6.
func Turn(a api.Matrix) (api.Matrix, api.Errno) {
	if e := Check(a); e != api.OK {
		return api.Matrix{}, e
	}
	return filled(a.Cols, a.Rows, func(r, c int) byte { return at(a, c, r) }), api.OK
}

// Rows: P2.6.
func Rows(a api.Matrix, which []int) (api.Matrix, api.Errno) {
	if e := Check(a); e != api.OK {
		return api.Matrix{}, e
	}
	isNone := func(r int) bool { return r < 0 || r >= a.Rows }
	if !isSide(len(which)) || slices.ContainsFunc(which, isNone) {
		return api.Matrix{}, api.ErrArg
	}
	return filled(len(which), a.Cols, func(r, c int) byte { return at(a, which[r], c) }), api.OK
}
