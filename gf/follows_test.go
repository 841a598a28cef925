package gf_test

import (
	"math"
	"slices"
	"testing"

	"granary/api"
	"granary/gf"
)

// P2.8: the laws of two elements, of all there are.
func TestFieldOfTwo(t *testing.T) {
	for i := range 256 {
		a := byte(i)
		if gf.Add(a, 0) != a || gf.Add(0, a) != a || gf.Mul(a, 1) != a || gf.Mul(1, a) != a {
			t.Fatalf("0 and 1 beside %d", a)
		}
		if b, e := gf.Inv(a); a != 0 && (e != api.OK || gf.Mul(a, b) != 1) {
			t.Fatalf("the inverse of %d: %d, error %d", a, b, e)
		}
		for j := range 256 {
			b := byte(j)
			if gf.Add(a, b) != gf.Add(b, a) || gf.Mul(a, b) != gf.Mul(b, a) {
				t.Fatalf("%d and %d the other way round", a, b)
			}
			if (gf.Mul(a, b) == 0) != (a == 0 || b == 0) {
				t.Fatalf("%d times %d: %d", a, b, gf.Mul(a, b))
			}
		}
	}
}

// P2.8: the laws of three elements, of all there are.
func TestFieldOfThree(t *testing.T) {
	var sum, times [256][256]byte
	for a := range 256 {
		for b := range 256 {
			sum[a][b], times[a][b] = gf.Add(byte(a), byte(b)), gf.Mul(byte(a), byte(b))
		}
	}
	for a := range 256 {
		for b := range 256 {
			for c := range 256 {
				if sum[sum[a][b]][c] != sum[a][sum[b][c]] || times[times[a][b]][c] != times[a][times[b][c]] {
					t.Fatalf("%d, %d and %d hang on how they are put together", a, b, c)
				}
				if times[a][sum[b][c]] != sum[times[a][b]][times[a][c]] {
					t.Fatalf("%d times the sum of %d and %d", a, b, c)
				}
			}
		}
	}
}

// P2.9: powers add.
func TestPowersAdd(t *testing.T) {
	d := dice(8)
	pairs := [][2]int{{0, 0}, {math.MaxInt, 0}, {math.MinInt, 0}, {math.MaxInt, math.MinInt}, {math.MinInt, math.MaxInt}, {math.MinInt + 1, -1}, {math.MaxInt - 1, 1}, {-1, 1}, {254, 1}}
	for range 200 {
		pairs = append(pairs, [2]int{d.below(1<<31) << 31 >> d.below(62), -d.below(1<<31) << 31 >> d.below(62)})
		pairs = append(pairs, [2]int{d.below(600) - 300, d.below(600) - 300})
	}
	for a := 1; a < 256; a++ {
		if gf.Pow(byte(a), 255) != 1 {
			t.Fatalf("Pow(%d, 255): %d", a, gf.Pow(byte(a), 255))
		}
		for _, p := range pairs {
			if gf.Mul(gf.Pow(byte(a), p[0]), gf.Pow(byte(a), p[1])) != gf.Pow(byte(a), p[0]+p[1]) {
				t.Fatalf("powers %d and %d of %d", p[0], p[1], a)
			}
		}
	}
}

// P2.9: squares add.
func TestSquaresAdd(t *testing.T) {
	for i := range 256 {
		for j := range 256 {
			a, b := byte(i), byte(j)
			if gf.Pow(gf.Add(a, b), 2) != gf.Add(gf.Pow(a, 2), gf.Pow(b, 2)) {
				t.Fatalf("the square of %d and %d", a, b)
			}
		}
	}
}

// P2.10: any unlike rows of powers have an inverse.
func TestVandermonde(t *testing.T) {
	d := dice(9)
	for n := 1; n <= 64; n++ {
		for _, rows := range []int{n, min(64, n+3), 64} {
			m := must[api.Matrix](t)(gf.Powers(rows, n))
			a := must[api.Matrix](t)(gf.Rows(m, d.unlike(n, rows)))
			if b, e := gf.Inverse(a); e != api.OK || !same(product(t, a, b), unit(n)) {
				t.Fatalf("%d rows of %d: error %d", n, rows, e)
			}
		}
	}
}

// P2.10: a row that comes twice leaves none.
func TestVandermondeTwice(t *testing.T) {
	m := must[api.Matrix](t)(gf.Powers(8, 3))
	for _, which := range [][]int{{1, 1, 2}, {7, 0, 7}, {0, 5, 5}} {
		b, e := gf.Inverse(must[api.Matrix](t)(gf.Rows(m, which)))
		wantNoMatrix(t, "rows twice", b, e, api.ErrFlat)
	}
}

// P2.11: inverses of inverses and of products.
func TestInverses(t *testing.T) {
	d := dice(10)
	for range 60 {
		n := d.side()
		a, b := d.upright(n), d.upright(n)
		if !same(inverse(t, inverse(t, a)), a) {
			t.Fatalf("the inverse of the inverse of %v", a)
		}
		if !same(inverse(t, product(t, a, b)), product(t, inverse(t, b), inverse(t, a))) {
			t.Fatalf("the inverse of the product of %v and %v", a, b)
		}
	}
}

// P2.11: a square matrix has an inverse just if its rank is its side.
func TestInverseByRank(t *testing.T) {
	d := dice(11)
	flat := 0
	for range 300 {
		n := d.side()
		a := d.matrix(n, n)
		_, e := gf.Inverse(a)
		if (e == api.OK) != (rank(t, a) == n) || e != api.OK && e != api.ErrFlat {
			t.Fatalf("rank %d of side %d, but error %d", rank(t, a), n, e)
		}
		if e == api.ErrFlat {
			flat++
		}
	}
	if flat < 30 || flat > 270 {
		t.Errorf("%d of 300 without an inverse: they prove little", flat)
	}
}

// P2.11: ranks of turned matrices and of products.
func TestRanks(t *testing.T) {
	d := dice(12)
	for range 200 {
		rows, mid, cols := d.side(), d.side(), d.side()
		a, b := d.matrix(rows, mid), d.matrix(mid, cols)
		if rank(t, turn(t, a)) != rank(t, a) {
			t.Fatalf("rank %d, but turned %d", rank(t, a), rank(t, turn(t, a)))
		}
		if n := rank(t, product(t, a, b)); n > rank(t, a) || n > rank(t, b) {
			t.Fatalf("rank %d of a product of ranks %d and %d", n, rank(t, a), rank(t, b))
		}
	}
}

// P2.12: values at the points, and the polynomial from its values.
func TestThroughPoints(t *testing.T) {
	d := dice(13)
	for n := range 257 {
		xs, ys := d.points(n), d.bytes(n)
		p := must[[]byte](t)(gf.Through(xs, ys))
		if len(p) != n {
			t.Fatalf("%d coefficients through %d points", len(p), n)
		}
		for i, x := range xs {
			if gf.Eval(p, x) != ys[i] {
				t.Fatalf("through %d points: %d at %d, want %d", n, gf.Eval(p, x), x, ys[i])
			}
		}
		few := d.bytes(d.below(n + 1))
		for i, x := range xs {
			ys[i] = gf.Eval(few, x)
		}
		if q := must[[]byte](t)(gf.Through(xs, ys)); !slices.Equal(q, append(few, make([]byte, n-len(few))...)) {
			t.Fatalf("through the values of %v at %d points: %v", few, n, q)
		}
	}
}
