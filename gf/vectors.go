package gf

import "granary/api"

// Scale: P2.3.
func Scale(c byte, v []byte) []byte {
	out := make([]byte, len(v))
	newField().addTimes(out, c, v)
	return out
}

// Sum: P2.3.
func Sum(v, w []byte) ([]byte, api.Errno) {
	if len(v) != len(w) {
		return nil, api.ErrSide
	}
	out := make([]byte, len(v))
	for i := range out {
		out[i] = v[i] ^ w[i]
	}
	return out, api.OK
}

// Eval: P2.3.
func Eval(p []byte, x byte) byte {
	f := newField()
	var y byte
	for i := len(p) - 1; i >= 0; i-- {
		y = f.mul(y, x) ^ p[i]
	}
	return y
}

// Through: P2.3, by Newton's differences.
func Through(xs, ys []byte) ([]byte, api.Errno) {
	if len(xs) != len(ys) {
		return nil, api.ErrSide
	}
	if twice(xs) {
		return nil, api.ErrTwice
	}
	f := newField()
	return f.spread(xs, f.differences(xs, ys)), api.OK
}

// twice: whether two of xs are the same.
func twice(xs []byte) bool {
	var seen [order + 1]bool
	for _, x := range xs {
		if seen[x] {
			return true
		}
		seen[x] = true
	}
	return false
}

// differences is the coefficients of the polynomial through the points as sums of 1, (x - xs[0]), (x - xs[0])(x - xs[1]) and so on.
func (f *field) differences(xs, ys []byte) []byte {
	d := make([]byte, len(ys))
	copy(d, ys)
	for k := 1; k < len(d); k++ {
		for i := len(d) - 1; i >= k; i-- {
			d[i] = f.div(d[i]^d[i-1], xs[i]^xs[i-k])
		}
	}
	return d
}

// spread is the coefficients of the powers of x of what differences tells.
func (f *field) spread(xs, d []byte) []byte {
	out := make([]byte, len(d))
	for i := len(d) - 1; i >= 0; i-- {
		// What stands there is multiplied by (x - xs[i]), from above, so that each coefficient is still there when the next one needs it.
		for j := len(d) - 1; j > 0; j-- {
			out[j] = out[j-1] ^ f.mul(xs[i], out[j])
		}
		out[0] = f.mul(xs[i], out[0]) ^ d[i]
	}
	return out
}
