package gf_test

import (
	"math"
	"testing"

	"granary/api"
	"granary/gf"
)

// P2.1: all sums and products.
func TestAddMul(t *testing.T) {
	for a := range 256 {
		for b := range 256 {
			x, y := byte(a), byte(b)
			if gf.Add(x, y) != x^y {
				t.Fatalf("Add(%d, %d): %d", a, b, gf.Add(x, y))
			}
			if gf.Mul(x, y) != school(x, y) {
				t.Fatalf("Mul(%d, %d): %d, want %d", a, b, gf.Mul(x, y), school(x, y))
			}
		}
	}
	if gf.Mul(2, 128) != 0x1d || gf.Mul(3, 7) != 9 {
		t.Error("the document's products")
	}
}

// P2.1: all quotients; by zero there is none.
func TestDiv(t *testing.T) {
	for a := range 256 {
		if q, e := gf.Div(byte(a), 0); q != 0 || e != api.ErrZero {
			t.Fatalf("Div(%d, 0): %d, error %d", a, q, e)
		}
		for b := 1; b < 256; b++ {
			q, e := gf.Div(byte(a), byte(b))
			if e != api.OK || school(q, byte(b)) != byte(a) {
				t.Fatalf("Div(%d, %d): %d, error %d", a, b, q, e)
			}
		}
	}
}

// P2.1: all inverses.
func TestInv(t *testing.T) {
	if i, e := gf.Inv(0); i != 0 || e != api.ErrZero {
		t.Errorf("Inv(0): %d, error %d", i, e)
	}
	for a := 1; a < 256; a++ {
		if i, e := gf.Inv(byte(a)); e != api.OK || i != schoolInv(byte(a)) {
			t.Errorf("Inv(%d): %d, error %d", a, i, e)
		}
	}
	if i, _ := gf.Inv(2); i != 0x8e {
		t.Errorf("Inv(2): %d", i)
	}
}

// P2.1: powers of all elements, one multiplied to the last.
func TestPow(t *testing.T) {
	for a := range 256 {
		up, down, back := byte(1), byte(1), schoolInv(byte(a))
		for n := range 600 {
			if p := gf.Pow(byte(a), n); p != up {
				t.Fatalf("Pow(%d, %d): %d, want %d", a, n, p, up)
			}
			if p := gf.Pow(byte(a), -n); p != down {
				t.Fatalf("Pow(%d, %d): %d, want %d", a, -n, p, down)
			}
			up, down = school(up, byte(a)), school(down, back)
		}
	}
}

// P2.1: n is any int.
func TestPowEnds(t *testing.T) {
	for _, n := range []int{math.MaxInt, math.MaxInt - 1, math.MaxInt - 255, math.MaxInt / 2, 1 << 32, 1<<31 - 1, 255 << 40} {
		for a := range 256 {
			if p, want := gf.Pow(byte(a), n), schoolPow(byte(a), uint64(n)); p != want {
				t.Fatalf("Pow(%d, %d): %d, want %d", a, n, p, want)
			}
			back := schoolInv(byte(a))
			if p, want := gf.Pow(byte(a), -n), schoolPow(back, uint64(n)); p != want {
				t.Fatalf("Pow(%d, %d): %d, want %d", a, -n, p, want)
			}
			if p, want := gf.Pow(byte(a), math.MinInt), schoolPow(back, 1<<63); p != want {
				t.Fatalf("Pow(%d, the least): %d, want %d", a, p, want)
			}
		}
	}
}

// P2.1: nothing to multiply is 1, and 0 has no inverse to multiply.
func TestPowOfZero(t *testing.T) {
	for n, want := range map[int]byte{0: 1, 1: 0, 2: 0, 255: 0, 510: 0, -1: 0, -255: 0, math.MaxInt: 0, math.MinInt: 0} {
		if p := gf.Pow(0, n); p != want {
			t.Errorf("Pow(0, %d): %d, want %d", n, p, want)
		}
	}
	if gf.Pow(2, -1) != 0x8e {
		t.Errorf("Pow(2, -1): %d", gf.Pow(2, -1))
	}
}

// P2.2: Exp is Pow of 2.
func TestExp(t *testing.T) {
	up, down := byte(1), byte(1)
	for n := range 600 {
		if gf.Exp(n) != up || gf.Exp(-n) != down {
			t.Fatalf("Exp of %d and below 0: %d, %d, want %d, %d", n, gf.Exp(n), gf.Exp(-n), up, down)
		}
		up, down = school(up, 2), school(down, 0x8e)
	}
	if gf.Exp(math.MaxInt) != schoolPow(2, math.MaxInt) || gf.Exp(math.MinInt) != schoolPow(0x8e, 1<<63) {
		t.Error("Exp at the ends of int")
	}
	if gf.Exp(8) != 0x1d {
		t.Errorf("Exp(8): %d", gf.Exp(8))
	}
}

// P2.2: all logarithms.
func TestLog(t *testing.T) {
	if n, e := gf.Log(0); n != 0 || e != api.ErrZero {
		t.Errorf("Log(0): %d, error %d", n, e)
	}
	for n := range 255 {
		a := schoolPow(2, uint64(n))
		if got, e := gf.Log(a); got != n || e != api.OK {
			t.Errorf("Log(%d): %d, error %d, want %d", a, got, e, n)
		}
	}
}
