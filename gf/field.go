package gf

// field holds the powers of 2 and the logarithms. The powers go round twice, so that two logarithms may be added, or one taken from another, without a remainder.
type field struct {
	exp [2 * order]byte
	log [order + 1]byte
}

// newField makes the arrays; whoever multiplies much makes them once.
func newField() *field {
	f := new(field)
	x := byte(1)
	for n := range order {
		f.exp[n], f.exp[n+order] = x, x
		f.log[x] = byte(n)
		x = double(x)
	}
	return f
}

// double is 2 times a.
func double(a byte) byte {
	if a&0x80 != 0 {
		return a<<1 ^ rest
	}
	return a << 1
}

func (f *field) mul(a, b byte) byte {
	if a == 0 || b == 0 {
		return 0
	}
	return f.exp[int(f.log[a])+int(f.log[b])]
}

// div is a by b, which is not 0.
func (f *field) div(a, b byte) byte {
	if a == 0 {
		return 0
	}
	return f.exp[int(f.log[a])+order-int(f.log[b])]
}

func (f *field) pow(a byte, n int) byte {
	if n == 0 {
		return 1
	}
	if a == 0 {
		return 0
	}
	// The remainder comes first: n itself may be too great to be multiplied, or to be turned round.
	n %= order
	if n < 0 {
		n += order
	}
	return f.exp[int(f.log[a])*n%order]
}

// scale multiplies each byte of v, in place.
func (f *field) scale(v []byte, c byte) {
	for i, x := range v {
		v[i] = f.mul(c, x)
	}
}

// addTimes adds c times each byte of w to that of v, in place; w is as long as v.
func (f *field) addTimes(v []byte, c byte, w []byte) {
	if c == 0 {
		return
	}
	for i, x := range w {
		v[i] ^= f.mul(c, x)
	}
}
