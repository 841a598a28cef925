package xdr_test

import (
	"math"
	"slices"
	"testing"

	"granary/api"
	"granary/xdr"
)

// P1.9: a list is how many it has, and each of them in order.
func TestPutList(t *testing.T) {
	for _, most := range []int{2, 3, math.MaxInt} {
		wantLaid(t, "two", "\x00\x00\x00\x02\x00\x00\x00\x05\x00\x00\x00\x06", func(w *xdr.Writer) {
			xdr.PutList(w, []uint32{5, 6}, most, putUint)
		})
	}
	for _, most := range []int{0, 1} {
		wantLaid(t, "none", "\x00\x00\x00\x00", func(w *xdr.Writer) { xdr.PutList(w, nil, most, putUint) })
		wantLaid(t, "none", "\x00\x00\x00\x00", func(w *xdr.Writer) { xdr.PutList(w, []uint32{}, most, putUint) })
	}
	wantLaid(t, "lists of texts", "\x00\x00\x00\x02\x00\x00\x00\x01\x00\x00\x00\x01a\x00\x00\x00\x00\x00\x00\x00", func(w *xdr.Writer) {
		xdr.PutList(w, [][]string{{"a"}, nil}, 2, putWords)
	})
}

// P1.9: more than most are refused, and nothing is written.
func TestPutListTooLong(t *testing.T) {
	for most, l := range map[int][]uint32{0: {5}, 1: {5, 6}, 2: {5, 6, 7}, -1: nil, math.MinInt: {}, -2: {5}} {
		w := xdr.NewWriter()
		w.Uint(9)
		xdr.PutList(w, l, most, func(w *xdr.Writer, n uint32) { t.Error("a value of a list that is refused is written") })
		if w.Why() != api.ErrLong || string(w.Bytes()) != "\x00\x00\x00\x09" {
			t.Errorf("%d values, most %d: %d, %x", len(l), most, w.Why(), w.Bytes())
		}
	}
}

// P1.1 and P1.9 to P1.11: an error that each comes to is the writer's; what was written ahead of it stays.
func TestPutEachFails(t *testing.T) {
	words := []string{"a", "long", "b"}
	for name, c := range map[string]struct {
		put  func(w *xdr.Writer)
		want string
	}{
		"PutList":   {func(w *xdr.Writer) { xdr.PutList(w, words, 3, putText) }, "\x00\x00\x00\x03\x00\x00\x00\x01a\x00\x00\x00"},
		"PutChain":  {func(w *xdr.Writer) { xdr.PutChain(w, words, putText) }, "\x00\x00\x00\x01\x00\x00\x00\x01a\x00\x00\x00\x00\x00\x00\x01"},
		"PutOption": {func(w *xdr.Writer) { xdr.PutOption(w, &words[1], putText) }, "\x00\x00\x00\x01"},
	} {
		w := xdr.NewWriter()
		c.put(w)
		if w.Why() != api.ErrLong || string(w.Bytes()) != c.want {
			t.Errorf("%s: %d, %x", name, w.Why(), w.Bytes())
		}
	}
}

// P1.9 to P1.11: behind an error no more values are asked for.
func TestEachIsLeft(t *testing.T) {
	calls := 0
	put := func(w *xdr.Writer, s string) { calls++; w.Text(s, 1) }
	get := func(r *xdr.Reader) bool { calls++; return r.Bool() }
	words := []string{"a", "bc", "d", "e"}
	xdr.PutList(xdr.NewWriter(), words, 9, put)
	xdr.PutChain(xdr.NewWriter(), words, put)
	if calls != 4 {
		t.Errorf("%d values were written, want 4", calls)
	}
	calls = 0
	xdr.List(reading("\xff\xff\xff\xff\x00\x00\x00\x01\x00\x00\x00\x02\x00\x00\x00\x01"), math.MaxInt, get)
	xdr.Chain(reading("\x00\x00\x00\x01\x00\x00\x00\x01\x00\x00\x00\x01\x00\x00\x00\x02\x00\x00\x00\x01"), 9, get)
	if calls != 4 {
		t.Errorf("%d values were read, want 4", calls)
	}
	calls = 0
	xdr.List(reading("\x00\x00\x00\x02\x00\x00\x00\x01\x00\x00\x00\x01"), 1, get)
	xdr.Chain(reading("\x00\x00\x00\x01\x00\x00\x00\x01"), 0, get)
	xdr.Option(reading("\x00\x00\x00\x02\x00\x00\x00\x01"), get)
	if calls != 0 {
		t.Errorf("%d values were read behind what is refused", calls)
	}
}

// P1.9: lists that are read.
func TestList(t *testing.T) {
	s := "\x00\x00\x00\x02\x00\x00\x00\x05\x00\x00\x00\x06"
	for _, most := range []int{2, 3, math.MaxInt} {
		r := reading(s + "rest")
		if l := xdr.List(r, most, getUint); !slices.Equal(l, []uint32{5, 6}) {
			t.Errorf("most %d: %v", most, l)
		}
		wantAt(t, "List", r, api.OK, 0, 12, 4)
	}
	for _, most := range []int{0, 1} {
		r := reading("\x00\x00\x00\x00rest")
		if l := xdr.List(r, most, getUint); len(l) != 0 {
			t.Errorf("of none: %v", l)
		}
		wantAt(t, "List of none", r, api.OK, 0, 4, 4)
	}
	r := reading("\x00\x00\x00\x03\x00\x00\x00\x01a\x00\x00\x00\x00\x00\x00\x00\x00\x00\x00\x02bc\x00\x00")
	if l := xdr.List(r, 3, getText); !slices.Equal(l, []string{"a", "", "bc"}) || r.Done() != api.OK {
		t.Errorf("texts: %q", l)
	}
	r = reading("\x00\x00\x00\x03")
	if l := xdr.List(r, 3, func(r *xdr.Reader) int { return r.At() }); !slices.Equal(l, []int{4, 4, 4}) || r.Done() != api.OK {
		t.Errorf("values of no bytes: %v", l)
	}
}

// P1.9: lists that are refused: none, with the error and its place.
func TestListErrors(t *testing.T) {
	for _, c := range []struct {
		s     string
		most  int
		why   api.Errno
		place int
	}{
		{"", 9, api.ErrShort, 0},
		{"\x00\x00\x00", -1, api.ErrShort, 0},
		{"\x00\x00\x00\x00", -1, api.ErrLong, 0},
		{"\x00\x00\x00\x00", math.MinInt, api.ErrLong, 0},
		{"\x00\x00\x00\x01\x00\x00\x00\x00", 0, api.ErrLong, 0},
		{"\x00\x00\x00\x03\x00\x00", 2, api.ErrLong, 0},
		{"\xff\xff\xff\xff", math.MaxInt32, api.ErrLong, 0},
		{"\xff\xff\xff\xff", math.MaxInt, api.ErrShort, 4},
		{"\x00\x00\x00\x01\x00\x00\x00", 1, api.ErrShort, 4},
		{"\x00\x00\x00\x02\x00\x00\x00\x00", 2, api.ErrShort, 8},
		{"\x00\x00\x00\x02\x00\x00\x00\x01a\x00\x00\x00\x00\x00\x00\x04", 2, api.ErrLong, 12},
		{"\x00\x00\x00\x02\x00\x00\x00\x01a\x00\x00\x00\x00\x00\x00\x02bc\x00\x01", 2, api.ErrPad, 12},
		{"\x00\x00\x00\x01\x00\x00\x00\x01a\x01\x00\x00\x00\x00\x00\x00", 2, api.ErrPad, 4},
	} {
		s := "\x00\x00\x00\x07" + c.s
		r := reading(s)
		r.Uint()
		if l := xdr.List(r, c.most, getText); len(l) != 0 {
			t.Errorf("%x, most %d: %q", c.s, c.most, l)
		}
		wantFail(t, "List", r, c.why, 4+c.place, len(s))
	}
}

// P1.10: a chain has Bool(true) ahead of each value, and Bool(false) at the end.
func TestPutChain(t *testing.T) {
	wantLaid(t, "two", "\x00\x00\x00\x01\x00\x00\x00\x05\x00\x00\x00\x01\x00\x00\x00\x06\x00\x00\x00\x00", func(w *xdr.Writer) {
		xdr.PutChain(w, []uint32{5, 6}, putUint)
	})
	wantLaid(t, "none", "\x00\x00\x00\x00", func(w *xdr.Writer) { xdr.PutChain(w, nil, putUint) })
	wantLaid(t, "none", "\x00\x00\x00\x00", func(w *xdr.Writer) { xdr.PutChain(w, []uint32{}, putUint) })
	wantLaid(t, "chain of lists", "\x00\x00\x00\x01\x00\x00\x00\x01\x00\x00\x00\x01a\x00\x00\x00\x00\x00\x00\x00", func(w *xdr.Writer) {
		xdr.PutChain(w, [][]string{{"a"}}, putWords)
	})
}

// P1.10: chains that are read; with an empty one no most is reached.
func TestChain(t *testing.T) {
	s := "\x00\x00\x00\x01\x00\x00\x00\x05\x00\x00\x00\x01\x00\x00\x00\x06\x00\x00\x00\x00"
	for _, most := range []int{2, 3, math.MaxInt} {
		r := reading(s + "rest")
		if l := xdr.Chain(r, most, getUint); !slices.Equal(l, []uint32{5, 6}) {
			t.Errorf("most %d: %v", most, l)
		}
		wantAt(t, "Chain", r, api.OK, 0, 20, 4)
	}
	for _, most := range []int{1, 0, -1, math.MinInt} {
		r := reading("\x00\x00\x00\x00rest")
		if l := xdr.Chain(r, most, getUint); len(l) != 0 {
			t.Errorf("of none: %v", l)
		}
		wantAt(t, "Chain of none", r, api.OK, 0, 4, 4)
	}
}

// P1.10: chains that are refused: none, with the error and its place.
func TestChainErrors(t *testing.T) {
	one := "\x00\x00\x00\x01\x00\x00\x00\x01a\x00\x00\x00"
	for _, c := range []struct {
		s     string
		most  int
		why   api.Errno
		place int
	}{
		{"", 9, api.ErrShort, 0},
		{"\x00\x00\x00", 0, api.ErrShort, 0},
		{"\x00\x00\x00\x02", 0, api.ErrBool, 0},
		{"\x00\x00\x00\x01", 0, api.ErrLong, 0},
		{"\x00\x00\x00\x01", -1, api.ErrLong, 0},
		{"\x00\x00\x00\x01", math.MinInt, api.ErrLong, 0},
		{"\x00\x00\x00\x01", 1, api.ErrShort, 4},
		{one, 1, api.ErrShort, 12},
		{one + "\x00\x00\x00", 9, api.ErrShort, 12},
		{one + "\x00\x00\x00\x02", 1, api.ErrBool, 12},
		{one + one + "\x00\x00\x00\x00", 1, api.ErrLong, 12},
		{one + one + one + "\x00\x00\x00\x00", 2, api.ErrLong, 24},
		{one + "\x00\x00\x00\x01\x00\x00\x00\x04", 2, api.ErrLong, 16},
		{one + "\x00\x00\x00\x01\x00\x00\x00\x01a\x01\x00\x00\x00\x00\x00\x00", 2, api.ErrPad, 16},
	} {
		s := "\x00\x00\x00\x07" + c.s
		r := reading(s)
		r.Uint()
		if l := xdr.Chain(r, c.most, getText); len(l) != 0 {
			t.Errorf("%x, most %d: %q", c.s, c.most, l)
		}
		wantFail(t, "Chain", r, c.why, 4+c.place, len(s))
	}
}

// P1.11: options that are written.
func TestPutOption(t *testing.T) {
	n := uint32(7)
	empty := ""
	wantLaid(t, "there", "\x00\x00\x00\x01\x00\x00\x00\x07", func(w *xdr.Writer) { xdr.PutOption(w, &n, putUint) })
	wantLaid(t, "nil", "\x00\x00\x00\x00", func(w *xdr.Writer) { xdr.PutOption(w, nil, putUint) })
	wantLaid(t, "an empty text", "\x00\x00\x00\x01\x00\x00\x00\x00", func(w *xdr.Writer) { xdr.PutOption(w, &empty, putText) })
}

// P1.11: options that are read, and that are refused.
func TestOption(t *testing.T) {
	r := reading("\x00\x00\x00\x01\x00\x00\x00\x07\x00\x00\x00\x00\x00\x00\x00\x01\x00\x00\x00\x00")
	p, q, z := xdr.Option(r, getUint), xdr.Option(r, getUint), xdr.Option(r, getUint)
	if p == nil || *p != 7 || q != nil || z == nil || *z != 0 || r.Done() != api.OK {
		t.Fatal(p, q, z, r.Done())
	}
	for _, c := range []struct {
		s     string
		why   api.Errno
		place int
	}{
		{"", api.ErrShort, 0},
		{"\x00\x00\x00", api.ErrShort, 0},
		{"\x00\x00\x00\x02\x00\x00\x00\x00", api.ErrBool, 0},
		{"\x00\x00\x00\x01", api.ErrShort, 4},
		{"\x00\x00\x00\x01\x00\x00\x00\x04", api.ErrLong, 4},
		{"\x00\x00\x00\x01\x00\x00\x00\x01a\x00\x00\x01", api.ErrPad, 4},
	} {
		s := "\x00\x00\x00\x07" + c.s
		r := reading(s)
		r.Uint()
		if xdr.Option(r, getText) != nil {
			t.Errorf("Option of %x", c.s)
		}
		wantFail(t, "Option", r, c.why, 4+c.place, len(s))
	}
}

// P1.9 to P1.11: an error of something within is that of the whole, at its own place.
func TestNestedErrors(t *testing.T) {
	words := "\x00\x00\x00\x01\x00\x00\x00\x01a\x00\x00\x00"
	getChain := func(r *xdr.Reader) []string { return xdr.Chain(r, 9, getText) }
	for _, c := range []struct {
		name    string
		s       string
		nothing func(r *xdr.Reader) bool
		why     api.Errno
	}{
		{"list of lists", "\x00\x00\x00\x02" + words, func(r *xdr.Reader) bool { return len(xdr.List(r, 9, getWords)) == 0 }, api.ErrLong},
		{"chain of lists", "\x00\x00\x00\x01" + words + "\x00\x00\x00\x01", func(r *xdr.Reader) bool { return len(xdr.Chain(r, 9, getWords)) == 0 }, api.ErrLong},
		{"option of a chain", "\x00\x00\x00\x01" + words, func(r *xdr.Reader) bool { return xdr.Option(r, getChain) == nil }, api.ErrBool},
	} {
		r := reading(c.s + "\x00\x00\x00\x09")
		if !c.nothing(r) {
			t.Errorf("%s answers something", c.name)
		}
		wantFail(t, c.name, r, c.why, len(c.s), len(c.s)+4)
	}
}

// Rule 3: lists and what options point to are neither changed nor kept.
func TestPutManyKeepsNothing(t *testing.T) {
	backing := []uint32{1, 2, 3, 4}
	l := backing[:2]
	n := uint32(5)
	w := xdr.NewWriter()
	xdr.PutList(w, l, 2, putUint)
	xdr.PutChain(w, l, putUint)
	xdr.PutOption(w, &n, putUint)
	if !slices.Equal(backing, []uint32{1, 2, 3, 4}) || n != 5 {
		t.Fatal("what was handed in was changed", backing, n)
	}
	want := string(w.Bytes())
	backing[0], backing[1], n = 9, 9, 9
	if string(w.Bytes()) != want {
		t.Fatal("what was handed in is kept")
	}
}

// Rule 3: lists, chains and options are new each time.
func TestManyAreNew(t *testing.T) {
	s := "\x00\x00\x00\x01\x00\x00\x00\x03abc\x00\x00\x00\x00\x02xy\x00\x00"
	list := func(r *xdr.Reader) []string {
		l := xdr.List(r, 1, getBytes)
		words := []string{}
		for _, p := range l {
			words = append(words, string(p))
			spoil(p)
		}
		clear(l[:cap(l)])
		return words
	}
	r := reading(s)
	if words, rest := list(r), r.Text(9); !slices.Equal(words, []string{"abc"}) || rest != "xy" {
		t.Fatal("a list shares memory with its reader", words, rest)
	}
	two := reading("\x00\x00\x00\x01\x00\x00\x00\x05\x00\x00\x00\x01\x00\x00\x00\x06")
	p, q := xdr.Option(two, getUint), xdr.Option(two, getUint)
	*p = 9
	if p == q || *q != 6 {
		t.Fatal("options share memory")
	}
	a, b := xdr.List(reading("\x00\x00\x00\x01\x00\x00\x00\x05"), 1, getUint), xdr.List(reading("\x00\x00\x00\x01\x00\x00\x00\x05"), 1, getUint)
	a[0] = 9
	c, d := xdr.Chain(reading("\x00\x00\x00\x01\x00\x00\x00\x05\x00\x00\x00\x00"), 1, getUint), xdr.Chain(reading("\x00\x00\x00\x01\x00\x00\x00\x05\x00\x00\x00\x00"), 1, getUint)
	c[0] = 9
	if b[0] != 5 || d[0] != 5 {
		t.Fatal("lists share memory")
	}
}
