package gf_test

import (
	"math"
	"testing"

	"granary/api"
	"granary/gf"
)

// P2.4: sides first, then the cells; Make answers what Check does.
func TestCheckMake(t *testing.T) {
	for name, b := range bad() {
		if e := gf.Check(b.m); e != b.why {
			t.Errorf("Check, %s: error %d, want %d", name, e, b.why)
		}
		m, e := gf.Make(b.m.Rows, b.m.Cols, b.m.Cells)
		wantNoMatrix(t, "Make, "+name, m, e, b.why)
	}
	d := dice(3)
	for _, s := range [][2]int{{1, 1}, {1, 64}, {64, 1}, {64, 64}, {2, 3}, {3, 2}} {
		want := matrix(s[0], s[1], d.bytes(s[0]*s[1])...)
		if e := gf.Check(want); e != api.OK {
			t.Errorf("Check of %v: error %d", s, e)
		}
		m, e := gf.Make(s[0], s[1], want.Cells)
		wantMatrix(t, "Make", m, e, want)
	}
}

// P2.4: every matrix that is handed in is asked for its Check first.
func TestCheckedFirst(t *testing.T) {
	for name, b := range bad() {
		for call, run := range map[string]func() (api.Matrix, api.Errno){
			"Turn":            func() (api.Matrix, api.Errno) { return gf.Turn(b.m) },
			"Inverse":         func() (api.Matrix, api.Errno) { return gf.Inverse(b.m) },
			"Rows":            func() (api.Matrix, api.Errno) { return gf.Rows(b.m, []int{0}) },
			"Rows, none":      func() (api.Matrix, api.Errno) { return gf.Rows(b.m, nil) },
			"Rows, wrong":     func() (api.Matrix, api.Errno) { return gf.Rows(b.m, []int{-1}) },
			"Product, left":   func() (api.Matrix, api.Errno) { return gf.Product(b.m, unit(1)) },
			"Product, right":  func() (api.Matrix, api.Errno) { return gf.Product(unit(1), b.m) },
			"Product, unlike": func() (api.Matrix, api.Errno) { return gf.Product(unit(40), b.m) },
		} {
			m, e := run()
			wantNoMatrix(t, call+", "+name, m, e, b.why)
		}
		n, e := gf.Rank(b.m)
		if n != 0 || e != b.why {
			t.Errorf("Rank, %s: %d, error %d, want %d", name, n, e, b.why)
		}
		x, e := gf.Solve(b.m, []byte{1})
		wantNoList(t, "Solve, "+name, x, e, b.why)
		x, e = gf.Solve(b.m, nil)
		wantNoList(t, "Solve of none, "+name, x, e, b.why)
	}
}

// P2.4: of two wrong matrices the left one's error is the call's.
func TestLeftFirst(t *testing.T) {
	for left, a := range bad() {
		for right, b := range bad() {
			m, e := gf.Product(a.m, b.m)
			wantNoMatrix(t, left+" by "+right, m, e, a.why)
		}
	}
}

// P2.5: the identity of every side.
func TestIdentity(t *testing.T) {
	for n := 1; n <= 64; n++ {
		m, e := gf.Identity(n)
		wantMatrix(t, "Identity", m, e, unit(n))
	}
	for _, n := range []int{0, -1, 65, math.MaxInt, math.MinInt, 1 << 32} {
		m, e := gf.Identity(n)
		wantNoMatrix(t, "Identity", m, e, api.ErrArg)
	}
}

// P2.5: powers of every side.
func TestPowers(t *testing.T) {
	for _, s := range [][2]int{{1, 1}, {1, 64}, {64, 1}, {64, 64}, {3, 2}, {2, 3}, {63, 17}} {
		want := matrix(s[0], s[1])
		for r := range s[0] {
			for c := range s[1] {
				want.Cells = append(want.Cells, schoolPow(byte(r), uint64(c)))
			}
		}
		m, e := gf.Powers(s[0], s[1])
		wantMatrix(t, "Powers", m, e, want)
	}
	m, e := gf.Powers(3, 2)
	wantMatrix(t, "the document's powers", m, e, matrix(3, 2, 1, 0, 1, 1, 1, 2))
	for _, s := range [][2]int{{0, 1}, {1, 0}, {0, 0}, {-1, 2}, {2, -1}, {-1, -1}, {65, 1}, {1, 65}, {math.MaxInt, 1}, {1, math.MinInt}} {
		m, e := gf.Powers(s[0], s[1])
		wantNoMatrix(t, "Powers", m, e, api.ErrArg)
	}
}

// P2.6: products, held against the rule; sides that do not fit.
func TestProduct(t *testing.T) {
	d := dice(4)
	for range 200 {
		rows, mid, cols := d.side(), d.side(), d.side()
		a, b := d.matrix(rows, mid), d.matrix(mid, cols)
		m, e := gf.Product(a, b)
		wantMatrix(t, "Product", m, e, schoolProduct(a, b))
	}
	for _, s := range [][4]int{{2, 3, 2, 3}, {1, 1, 2, 1}, {1, 2, 1, 1}, {64, 64, 63, 64}, {3, 2, 3, 3}} {
		m, e := gf.Product(d.matrix(s[0], s[1]), d.matrix(s[2], s[3]))
		wantNoMatrix(t, "Product", m, e, api.ErrSide)
	}
}

// P2.6: rows and columns exchanged.
func TestTurn(t *testing.T) {
	m, e := gf.Turn(matrix(2, 3, 1, 2, 3, 4, 5, 6))
	wantMatrix(t, "Turn", m, e, matrix(3, 2, 1, 4, 2, 5, 3, 6))
	m, e = gf.Turn(matrix(1, 1, 9))
	wantMatrix(t, "Turn of one", m, e, matrix(1, 1, 9))
	d := dice(5)
	a := d.matrix(64, 64)
	turned := matrix(64, 64)
	for c := range 64 {
		for r := range 64 {
			turned.Cells = append(turned.Cells, a.Cells[r*64+c])
		}
	}
	m, e = gf.Turn(a)
	wantMatrix(t, "Turn of the greatest", m, e, turned)
	line := d.matrix(1, 64)
	m, e = gf.Turn(line)
	wantMatrix(t, "Turn of a row", m, e, matrix(64, 1, line.Cells...))
}

// P2.6: rows in the order that is asked for, also twice, also more than there are.
func TestRows(t *testing.T) {
	a := matrix(3, 2, 1, 2, 3, 4, 5, 6)
	m, e := gf.Rows(a, []int{2, 0, 2})
	wantMatrix(t, "Rows", m, e, matrix(3, 2, 5, 6, 1, 2, 5, 6))
	m, e = gf.Rows(a, []int{1})
	wantMatrix(t, "one row", m, e, matrix(1, 2, 3, 4))
	m, e = gf.Rows(matrix(1, 1, 7), make([]int, 64))
	many := matrix(64, 1)
	for range 64 {
		many.Cells = append(many.Cells, 7)
	}
	wantMatrix(t, "64 rows", m, e, many)
	for name, which := range map[string][]int{
		"none": {}, "no list": nil, "below 0": {-1}, "past the end": {3}, "the last wrong": {0, 1, 2, 3}, "the first wrong": {-1, 0},
		"the greatest": {math.MaxInt}, "the least": {math.MinInt}, "65": make([]int, 65), "1000": make([]int, 1000),
	} {
		m, e := gf.Rows(a, which)
		wantNoMatrix(t, name, m, e, api.ErrArg)
	}
}
