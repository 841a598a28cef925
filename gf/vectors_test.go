package gf_test

import (
	"slices"
	"testing"

	"granary/api"
	"granary/gf"
)

// every is all elements.
func every() []byte {
	v := make([]byte, 256)
	for i := range v {
		v[i] = byte(i)
	}
	return v
}

// P2.3: all products, as vectors; none of none.
func TestScale(t *testing.T) {
	for c := range 256 {
		var want []byte
		for _, x := range every() {
			want = append(want, school(byte(c), x))
		}
		if got := gf.Scale(byte(c), every()); !slices.Equal(got, want) {
			t.Fatalf("Scale by %d: %v, want %v", c, got, want)
		}
		if len(gf.Scale(byte(c), nil)) != 0 || len(gf.Scale(byte(c), []byte{})) != 0 {
			t.Fatalf("Scale of none by %d", c)
		}
	}
}

// P2.3: sums, and vectors that are not as long.
func TestSum(t *testing.T) {
	d := dice(1)
	for n := range 40 {
		v, w := d.bytes(n), d.bytes(n)
		var want []byte
		for i := range v {
			want = append(want, v[i]^w[i])
		}
		p, e := gf.Sum(v, w)
		wantList(t, "Sum", p, e, want)
	}
	p, e := gf.Sum(nil, []byte{})
	wantList(t, "Sum of none", p, e, nil)
	for name, l := range map[string][2][]byte{
		"left longer": {{1, 2}, {1}}, "right longer": {{1}, {1, 2}}, "left none": {nil, {0}}, "right none": {{0}, nil},
	} {
		p, e := gf.Sum(l[0], l[1])
		wantNoList(t, name, p, e, api.ErrSide)
	}
}

// P2.3: values of polynomials, held against their sums of powers.
func TestEval(t *testing.T) {
	d := dice(2)
	for n := range 30 {
		p := d.bytes(n)
		for x := range 256 {
			var want byte
			for i, c := range p {
				want ^= school(c, schoolPow(byte(x), uint64(i)))
			}
			if got := gf.Eval(p, byte(x)); got != want {
				t.Fatalf("Eval(%v, %d): %d, want %d", p, x, got, want)
			}
		}
	}
	if gf.Eval(nil, 7) != 0 || gf.Eval([]byte{}, 0) != 0 {
		t.Error("Eval of none")
	}
	if gf.Eval([]byte{9, 8, 7}, 0) != 9 {
		t.Error("Eval at 0")
	}
	if gf.Eval([]byte{1, 2, 3}, 1) != 0 {
		t.Error("the document's value")
	}
}

// P2.3: through no point, one, two and all that there are.
func TestThrough(t *testing.T) {
	for name, c := range map[string]struct{ xs, ys, want []byte }{
		"none":          {nil, []byte{}, nil},
		"one":           {[]byte{7}, []byte{9}, []byte{9}},
		"one at 0":      {[]byte{0}, []byte{0}, []byte{0}},
		"two":           {[]byte{0, 1}, []byte{5, 4}, []byte{5, 1}},
		"two, turned":   {[]byte{1, 0}, []byte{4, 5}, []byte{5, 1}},
		"a constant":    {[]byte{3, 1, 2}, []byte{6, 6, 6}, []byte{6, 0, 0}},
		"a square":      {[]byte{0, 1, 2}, []byte{0, 1, 4}, []byte{0, 0, 1}},
		"zeros only":    {[]byte{9, 0, 200}, []byte{0, 0, 0}, []byte{0, 0, 0}},
		"x with 255 up": {[]byte{255, 254}, []byte{255, 254}, []byte{0, 1}},
	} {
		p, e := gf.Through(c.xs, c.ys)
		wantList(t, name, p, e, c.want)
	}
	p, e := gf.Through(every(), every())
	want := make([]byte, 256)
	want[1] = 1
	wantList(t, "all", p, e, want)
}

// P2.3: lists that are not as long come ahead of a point that is given twice.
func TestThroughWrong(t *testing.T) {
	many := append(every(), 0)
	for name, c := range map[string]struct {
		xs, ys []byte
		why    api.Errno
	}{
		"xs longer":             {[]byte{1, 2}, []byte{1}, api.ErrSide},
		"ys longer":             {[]byte{1}, []byte{1, 2}, api.ErrSide},
		"no xs":                 {nil, []byte{1}, api.ErrSide},
		"no ys":                 {[]byte{1}, nil, api.ErrSide},
		"longer and twice":      {[]byte{1, 1}, []byte{1}, api.ErrSide},
		"twice, shorter":        {[]byte{1, 1}, []byte{1, 1, 1}, api.ErrSide},
		"twice":                 {[]byte{1, 1}, []byte{5, 4}, api.ErrTwice},
		"twice, the same value": {[]byte{1, 1}, []byte{5, 5}, api.ErrTwice},
		"0 twice":               {[]byte{0, 3, 0}, []byte{5, 4, 5}, api.ErrTwice},
		"first and last":        {[]byte{255, 3, 2, 1, 255}, []byte{5, 4, 3, 2, 1}, api.ErrTwice},
		"the last two":          {[]byte{4, 3, 2, 1, 1}, []byte{5, 4, 3, 2, 1}, api.ErrTwice},
		"more than there are":   {many, many, api.ErrTwice},
	} {
		p, e := gf.Through(c.xs, c.ys)
		wantNoList(t, name, p, e, c.why)
	}
}
