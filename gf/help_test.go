package gf_test

import (
	"slices"
	"testing"

	"granary/api"
	"granary/gf"
)

// school is the product as the document tells it: polynomials multiplied, then the remainder by hex 11d.
func school(a, b byte) byte {
	product := 0
	for i := range 8 {
		if b>>i&1 == 1 {
			product ^= int(a) << i
		}
	}
	for i := 14; i >= 8; i-- {
		if product>>i&1 == 1 {
			product ^= 0x11d << (i - 8)
		}
	}
	return byte(product)
}

// schoolInv is the b of which school(a, b) is 1.
func schoolInv(a byte) byte {
	for b := range 256 {
		if school(a, byte(b)) == 1 {
			return byte(b)
		}
	}
	return 0
}

// schoolPow is the product of n a's, n at least 0, halving n.
func schoolPow(a byte, n uint64) byte {
	product := byte(1)
	for ; n > 0; n /= 2 {
		if n%2 == 1 {
			product = school(product, a)
		}
		a = school(a, a)
	}
	return product
}

// schoolProduct is the matrix product by the rule, cell by cell.
func schoolProduct(a, b api.Matrix) api.Matrix {
	out := api.Matrix{Rows: a.Rows, Cols: b.Cols}
	for r := range a.Rows {
		for c := range b.Cols {
			var sum byte
			for i := range a.Cols {
				sum ^= school(a.Cells[r*a.Cols+i], b.Cells[i*b.Cols+c])
			}
			out.Cells = append(out.Cells, sum)
		}
	}
	return out
}

// matrix is one made by hand.
func matrix(rows, cols int, cells ...byte) api.Matrix {
	return api.Matrix{Rows: rows, Cols: cols, Cells: cells}
}

// unit is the identity, made by hand.
func unit(n int) api.Matrix {
	m := matrix(n, n, make([]byte, n*n)...)
	for i := range n {
		m.Cells[i*n+i] = 1
	}
	return m
}

func same(a, b api.Matrix) bool {
	return a.Rows == b.Rows && a.Cols == b.Cols && slices.Equal(a.Cells, b.Cells)
}

// wantMatrix: m is want, and there is no error.
func wantMatrix(t *testing.T, name string, m api.Matrix, e api.Errno, want api.Matrix) {
	t.Helper()
	if e != api.OK || !same(m, want) {
		t.Errorf("%s: %v, error %d, want %v", name, m, e, want)
	}
}

// wantNoMatrix: the zero Matrix, and the error.
func wantNoMatrix(t *testing.T, name string, m api.Matrix, e, want api.Errno) {
	t.Helper()
	if e != want || m.Rows != 0 || m.Cols != 0 || m.Cells != nil {
		t.Errorf("%s: %v, error %d, want the zero Matrix and error %d", name, m, e, want)
	}
}

// wantList: the bytes, and no error.
func wantList(t *testing.T, name string, p []byte, e api.Errno, want []byte) {
	t.Helper()
	if e != api.OK || !slices.Equal(p, want) {
		t.Errorf("%s: %v, error %d, want %v", name, p, e, want)
	}
}

// wantNoList: no bytes, and the error.
func wantNoList(t *testing.T, name string, p []byte, e, want api.Errno) {
	t.Helper()
	if e != want || len(p) != 0 {
		t.Errorf("%s: %v, error %d, want none and error %d", name, p, e, want)
	}
}

// must is what a call answers that may not come to an error.
func must[T any](t *testing.T) func(x T, e api.Errno) T {
	t.Helper()
	return func(x T, e api.Errno) T {
		t.Helper()
		if e != api.OK {
			t.Fatalf("error %d", e)
		}
		return x
	}
}

// bad is matrices that do not pass Check, with its answer.
func bad() map[string]struct {
	m   api.Matrix
	why api.Errno
} {
	type wrong = struct {
		m   api.Matrix
		why api.Errno
	}
	most := make([]byte, 70*70)
	return map[string]wrong{
		"zero":                 {api.Matrix{}, api.ErrArg},
		"no rows":              {matrix(0, 1), api.ErrArg},
		"no columns":           {matrix(1, 0), api.ErrArg},
		"rows below 0":         {matrix(-1, 1, 1), api.ErrArg},
		"columns below 0":      {matrix(1, -1, 1), api.ErrArg},
		"both below 0":         {matrix(-1, -1, 1), api.ErrArg},
		"65 rows":              {matrix(65, 1, most[:65]...), api.ErrArg},
		"65 columns":           {matrix(1, 65, most[:65]...), api.ErrArg},
		"65 rows, no cells":    {matrix(65, 1), api.ErrArg},
		"many rows":            {matrix(1<<62, 4), api.ErrArg},
		"least and greatest":   {matrix(-1<<63, 1<<63-1), api.ErrArg},
		"no cells":             {matrix(1, 1), api.ErrSide},
		"a cell too few":       {matrix(2, 3, 1, 2, 3, 4, 5), api.ErrSide},
		"a cell too many":      {matrix(2, 3, 1, 2, 3, 4, 5, 6, 7), api.ErrSide},
		"greatest, a cell few": {matrix(64, 64, most[:64*64-1]...), api.ErrSide},
		"greatest, one more":   {matrix(64, 64, most[:64*64+1]...), api.ErrSide},
	}
}

// dice is numbers that look thrown, the same ones each time.
type dice uint64

// below is the next number, of 0 to n - 1.
func (d *dice) below(n int) int {
	*d = *d*6364136223846793005 + 1442695040888963407
	return int(uint64(*d) >> 33 % uint64(n))
}

// bytes is n bytes.
func (d *dice) bytes(n int) []byte {
	p := make([]byte, n)
	for i := range p {
		p[i] = byte(d.below(256))
	}
	return p
}

// unlike is n unlike numbers of 0 to most - 1, in any order.
func (d *dice) unlike(n, most int) []int {
	all := make([]int, most)
	for i := range all {
		j := d.below(i + 1)
		all[i], all[j] = all[j], i
	}
	return all[:n]
}

// points is n unlike bytes.
func (d *dice) points(n int) []byte {
	var xs []byte
	for _, x := range d.unlike(n, 256) {
		xs = append(xs, byte(x))
	}
	return xs
}

// side is a small side, or one of the greatest.
func (d *dice) side() int {
	if d.below(6) == 0 {
		return 62 + d.below(3)
	}
	return 1 + d.below(8)
}

// matrix is one of these sides: of any bytes, of few kinds of them, or of a low rank.
func (d *dice) matrix(rows, cols int) api.Matrix {
	switch d.below(3) {
	case 0:
		m := matrix(rows, cols)
		for range rows * cols {
			m.Cells = append(m.Cells, byte(d.below(2)))
		}
		return m
	case 1:
		thin := 1 + d.below(min(rows, cols))
		return schoolProduct(matrix(rows, thin, d.bytes(rows*thin)...), matrix(thin, cols, d.bytes(thin*cols)...))
	}
	return matrix(rows, cols, d.bytes(rows*cols)...)
}

// upright is a square matrix that has an inverse: steps of elimination, done to the identity.
func (d *dice) upright(n int) api.Matrix {
	m := unit(n)
	for range 3 * n {
		r, from, c := d.below(n), d.below(n), byte(1+d.below(255))
		for i := range n {
			if r == from {
				m.Cells[r*n+i] = school(c, m.Cells[r*n+i])
			} else {
				m.Cells[r*n+i] ^= school(c, m.Cells[from*n+i])
			}
		}
	}
	return m
}

// spoil writes over all of p, its spare room too.
func spoil(p []byte) {
	p = p[:cap(p)]
	for i := range p {
		p[i] = 0xee
	}
}

// roomy is the bytes of s in a list with spare room, which is told by its bytes.
func roomy(s []byte) []byte {
	p := make([]byte, len(s)+9)
	spoil(p)
	copy(p, s)
	return p[:len(s)]
}

// isRoomy: p is as roomy made it of s.
func isRoomy(p, s []byte) bool {
	return slices.Equal(p[:cap(p)], roomy(s)[:len(s)+9])
}

// product is gf's, where nothing can be wrong.
func product(t *testing.T, a, b api.Matrix) api.Matrix {
	t.Helper()
	return must[api.Matrix](t)(gf.Product(a, b))
}

func inverse(t *testing.T, a api.Matrix) api.Matrix {
	t.Helper()
	return must[api.Matrix](t)(gf.Inverse(a))
}

func turn(t *testing.T, a api.Matrix) api.Matrix {
	t.Helper()
	return must[api.Matrix](t)(gf.Turn(a))
}

func rank(t *testing.T, a api.Matrix) int {
	t.Helper()
	return must[int](t)(gf.Rank(a))
}
