package gf_test

import (
	"testing"

	"granary/api"
	"granary/gf"
)

// P2.7: ranks that are known.
func TestRank(t *testing.T) {
	for name, c := range map[string]struct {
		m    api.Matrix
		want int
	}{
		"zero cell":          {matrix(1, 1, 0), 0},
		"one cell":           {matrix(1, 1, 9), 1},
		"all the same":       {matrix(2, 2, 1, 1, 1, 1), 1},
		"zeros":              {matrix(3, 4, make([]byte, 12)...), 0},
		"a first column":     {matrix(2, 3, 0, 1, 2, 0, 3, 4), 2},
		"rows exchanged":     {matrix(2, 2, 0, 1, 1, 0), 2},
		"a column":           {matrix(4, 1, 0, 0, 5, 7), 1},
		"a row":              {matrix(1, 4, 0, 0, 5, 7), 1},
		"third is the sum":   {matrix(3, 3, 1, 2, 3, 4, 5, 6, 5, 7, 5), 2},
		"second is thrice":   {matrix(2, 3, 1, 2, 4, 3, 6, 12), 1},
		"a hole in the step": {matrix(3, 4, 1, 0, 0, 0, 0, 0, 1, 0, 0, 0, 1, 1), 3},
		"more rows":          {matrix(3, 2, 1, 2, 3, 4, 5, 6), 2},
		"greatest":           {unit(64), 64},
	} {
		if n, e := gf.Rank(c.m); n != c.want || e != api.OK {
			t.Errorf("%s: rank %d, error %d, want %d", name, n, e, c.want)
		}
	}
}

// P2.7: a matrix that is made of thin ones has at most their rank, and one of unlike powers has it.
func TestRankOfThin(t *testing.T) {
	for thin := 1; thin <= 64; thin += 7 {
		a, _ := gf.Powers(64, thin)
		if n := rank(t, schoolProduct(a, turn(t, a))); n != thin {
			t.Errorf("rank %d of a product of rank %d", n, thin)
		}
	}
}

// P2.7: inverses that are known, that there are none of, and sides that do not fit.
func TestInverse(t *testing.T) {
	for name, c := range map[string]struct{ m, want api.Matrix }{
		"one cell":       {matrix(1, 1, 2), matrix(1, 1, 0x8e)},
		"its own":        {matrix(2, 2, 1, 0, 1, 1), matrix(2, 2, 1, 0, 1, 1)},
		"rows exchanged": {matrix(2, 2, 0, 2, 1, 0), matrix(2, 2, 0, 1, 0x8e, 0)},
		"greatest":       {unit(64), unit(64)},
	} {
		m, e := gf.Inverse(c.m)
		wantMatrix(t, name, m, e, c.want)
	}
	for name, c := range map[string]api.Matrix{
		"zero": matrix(1, 1, 0), "all the same": matrix(2, 2, 1, 1, 1, 1), "a row of zeros": matrix(2, 2, 1, 2, 0, 0),
		"a column of zeros": matrix(2, 2, 0, 1, 0, 2), "the last hangs": matrix(3, 3, 1, 2, 3, 4, 5, 6, 5, 7, 5), "greatest": matrix(64, 64, make([]byte, 64*64)...),
	} {
		m, e := gf.Inverse(c)
		wantNoMatrix(t, name, m, e, api.ErrFlat)
	}
	for _, s := range [][2]int{{1, 2}, {2, 1}, {64, 63}, {63, 64}} {
		m, e := gf.Inverse(matrix(s[0], s[1], make([]byte, s[0]*s[1])...))
		wantNoMatrix(t, "not square, and zeros", m, e, api.ErrSide)
	}
}

// P2.7: products with the inverse, on either side, are the identity.
func TestInverseTimes(t *testing.T) {
	d := dice(6)
	for range 100 {
		n := d.side()
		a := d.upright(n)
		b := inverse(t, a)
		if !same(schoolProduct(a, b), unit(n)) || !same(schoolProduct(b, a), unit(n)) {
			t.Fatalf("of side %d: %v is not the inverse of %v", n, b, a)
		}
	}
}

// P2.7: what was multiplied is found again.
func TestSolve(t *testing.T) {
	d := dice(7)
	for range 200 {
		n := d.side()
		a, x := d.upright(n), d.bytes(n)
		got, e := gf.Solve(a, schoolProduct(a, matrix(n, 1, x...)).Cells)
		wantList(t, "Solve", got, e, x)
	}
}

// P2.7: sides come ahead of a matrix without an inverse.
func TestSolveWrong(t *testing.T) {
	flat := matrix(2, 2, 1, 1, 1, 1)
	for name, c := range map[string]struct {
		a   api.Matrix
		y   []byte
		why api.Errno
	}{
		"not square":               {matrix(2, 3, 1, 2, 3, 4, 5, 6), []byte{1, 2}, api.ErrSide},
		"not square, as columns":   {matrix(2, 3, 1, 2, 3, 4, 5, 6), []byte{1, 2, 3}, api.ErrSide},
		"not square, the other":    {matrix(3, 2, 1, 2, 3, 4, 5, 6), []byte{1, 2, 3}, api.ErrSide},
		"not square, zeros":        {matrix(2, 1, 0, 0), []byte{0, 0}, api.ErrSide},
		"a byte too few":           {unit(2), []byte{1}, api.ErrSide},
		"a byte too many":          {unit(2), []byte{1, 2, 3}, api.ErrSide},
		"no bytes":                 {unit(2), nil, api.ErrSide},
		"flat and too few":         {flat, []byte{1}, api.ErrSide},
		"flat and too many":        {flat, []byte{1, 1, 1}, api.ErrSide},
		"flat":                     {flat, []byte{1, 2}, api.ErrFlat},
		"flat with many solutions": {flat, []byte{3, 3}, api.ErrFlat},
		"zeros":                    {matrix(2, 2, 0, 0, 0, 0), []byte{0, 0}, api.ErrFlat},
		"zero":                     {matrix(1, 1, 0), []byte{0}, api.ErrFlat},
	} {
		x, e := gf.Solve(c.a, c.y)
		wantNoList(t, name, x, e, c.why)
	}
}
