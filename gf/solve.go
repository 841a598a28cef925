package gf

import "granary/api"

// Rank: P2.7.
func Rank(a api.Matrix) (int, api.Errno) {
	if e := Check(a); e != api.OK {
		return 0, e
	}
	return reduce(beside(a, 0, nil), a.Cols), api.OK
}

// Inverse: P2.7.
func Inverse(a api.Matrix) (api.Matrix, api.Errno) {
	if e := Check(a); e != api.OK {
		return api.Matrix{}, e
	}
	if a.Rows != a.Cols {
		return api.Matrix{}, api.ErrSide
	}
	n := a.Rows
	lines := beside(a, n, one)
	if reduce(lines, n) < n {
		return api.Matrix{}, api.ErrFlat
	}
	return filled(n, n, func(r, c int) byte { return lines[r][n+c] }), api.OK
}

// Solve: P2.7.
func Solve(a api.Matrix, y []byte) ([]byte, api.Errno) {
	if e := Check(a); e != api.OK {
		return nil, e
	}
	if a.Rows != a.Cols || len(y) != a.Rows {
		return nil, api.ErrSide
	}
	n := a.Rows
	lines := beside(a, 1, func(r, c int) byte { return y[r] })
	if reduce(lines, n) < n {
		return nil, api.ErrFlat
	}
	x := make([]byte, n)
	for r := range n {
		x[r] = lines[r][n]
	}
	return x, api.OK
}

// beside is the rows of a, each with more cells behind its own: what more tells of the row and the further column. (As lists, since together they may have more columns than a matrix.)
func beside(a api.Matrix, further int, more func(r, c int) byte) [][]byte {
	lines := make([][]byte, a.Rows)
	for r := range a.Rows {
		line := make([]byte, a.Cols+further)
		copy(line, a.Cells[r*a.Cols:(r+1)*a.Cols])
		for c := range further {
			line[a.Cols+c] = more(r, c)
		}
		lines[r] = line
	}
	return lines
}

// reduce clears, in place, as many of the first cols columns as it can down to one 1, each in a row of its own, and tells how many. The rows with a 1 stand first, in the order of their columns.
func reduce(lines [][]byte, cols int) int {
	f := newField()
	done := 0
	for col := range cols {
		lead := leading(lines, done, col)
		if lead < 0 {
			continue
		}
		lines[done], lines[lead] = lines[lead], lines[done]
		f.scale(lines[done], f.div(1, lines[done][col]))
		f.clearOthers(lines, done, col)
		done++
	}
	return done
}

// leading is the first row from the given one on with something in the column, and -1 if there is none.
func leading(lines [][]byte, from, col int) int {
	for r := from; r < len(lines); r++ {
		if lines[r][col] != 0 {
			return r
		}
	}
	return -1
}

// clearOthers makes the column 0 in all rows but one, which has a 1 there.
func (f *field) clearOthers(lines [][]byte, lead, col int) {
	for r := range len(lines) {
		if r != lead {
			f.addTimes(lines[r], lines[r][col], lines[lead])
		}
	}
}
