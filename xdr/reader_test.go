package xdr_test

import (
	"math"
	"testing"

	"granary/api"
	"granary/xdr"
)

// P1.5: a new reader stands at 0 without an error, whatever it is given.
func TestNewReader(t *testing.T) {
	for _, s := range []string{"", "a", "abcd", "abcdefghi"} {
		r := reading(s)
		if r == nil {
			t.Fatal("no reader")
		}
		wantAt(t, s, r, api.OK, 0, 0, len(s))
	}
	wantAt(t, "nil", xdr.NewReader(nil), api.OK, 0, 0, 0)
}

// P1.5 and rule 3: the bytes are those that were there then; they are neither changed nor kept.
func TestReaderKeepsNothing(t *testing.T) {
	p := roomy("\x00\x00\x00\x01a\x00\x00\x00")
	r := xdr.NewReader(p)
	spoil(p)
	if r.Text(1) != "a" || r.Done() != api.OK {
		t.Fatal("the reader keeps the list that it was handed")
	}
	p = roomy("\x00\x00\x00\x01a\x00\x00\x00\x00\x00\x00\x05")
	r = xdr.NewReader(p)
	spoil(r.Opaque(1))
	spoil(r.Fixed(4))
	wantRoomy(t, "NewReader", p, "\x00\x00\x00\x01a\x00\x00\x00\x00\x00\x00\x05")
}

// readings is each call of a reader, and whether it answers nothing.
func readings() map[string]func(r *xdr.Reader) bool {
	return map[string]func(r *xdr.Reader) bool{
		"Uint":                 func(r *xdr.Reader) bool { return r.Uint() == 0 },
		"Int":                  func(r *xdr.Reader) bool { return r.Int() == 0 },
		"Hyper":                func(r *xdr.Reader) bool { return r.Hyper() == 0 },
		"Bool":                 func(r *xdr.Reader) bool { return !r.Bool() },
		"Enum":                 func(r *xdr.Reader) bool { return r.Enum(9) == 0 },
		"Enum 0":               func(r *xdr.Reader) bool { return r.Enum(0) == 0 },
		"Fixed":                func(r *xdr.Reader) bool { return len(r.Fixed(2)) == 0 },
		"Fixed 0":              func(r *xdr.Reader) bool { return len(r.Fixed(0)) == 0 },
		"Opaque":               func(r *xdr.Reader) bool { return len(r.Opaque(9)) == 0 },
		"Opaque, most below 0": func(r *xdr.Reader) bool { return len(r.Opaque(-1)) == 0 },
		"Text":                 func(r *xdr.Reader) bool { return r.Text(9) == "" },
		"List":                 func(r *xdr.Reader) bool { return len(xdr.List(r, 9, getUint)) == 0 },
		"List, most below 0":   func(r *xdr.Reader) bool { return len(xdr.List(r, -1, getUint)) == 0 },
		"Chain":                func(r *xdr.Reader) bool { return len(xdr.Chain(r, 9, getUint)) == 0 },
		"Option":               func(r *xdr.Reader) bool { return xdr.Option(r, getUint) == nil },
	}
}

// P1.5: the first error stays, with its place; the reader moves no more and answers nothing.
func TestReaderStaysStuck(t *testing.T) {
	ones := "\x00\x00\x00\x01\x00\x00\x00\x01\x00\x00\x00\x01\x00\x00\x00\x00"
	for name, nothing := range readings() {
		s := "\x00\x00\x00\x07\x00\x00\x00\x02" + ones
		r := reading(s)
		r.Uint()
		r.Bool()
		for range 2 {
			if !nothing(r) {
				t.Errorf("%s answers something behind an error", name)
			}
			wantFail(t, name, r, api.ErrBool, 4, len(s))
		}
	}
}

// P1.5: another error behind the first one changes neither it nor its place.
func TestFirstErrorStays(t *testing.T) {
	s := "\x00\x00\x00\x03\x00\x00\x00\x09"
	r := reading(s)
	r.Enum(2)
	r.Bool()
	r.Text(-1)
	r.Fixed(99)
	wantFail(t, "behind ErrEnum", r, api.ErrEnum, 0, len(s))
	r = reading(s)
	r.Text(2)
	r.Bool()
	r.Hyper()
	wantFail(t, "behind ErrLong", r, api.ErrLong, 0, len(s))
}

// P1.6: numbers, one behind the other.
func TestReadNumbers(t *testing.T) {
	r := reading("\x01\x02\x03\x04\xff\xff\xff\xff\x80\x00\x00\x00\xff\xff\xff\xfe\x01\x02\x03\x04\x05\x06\x07\x08\xff\xff\xff\xff\xff\xff\xff\xff")
	if n := r.Uint(); n != 0x01020304 {
		t.Errorf("Uint: %x", n)
	}
	if n := r.Uint(); n != math.MaxUint32 {
		t.Errorf("Uint: %x", n)
	}
	if n := r.Int(); n != math.MinInt32 {
		t.Errorf("Int: %d", n)
	}
	if n := r.Int(); n != -2 {
		t.Errorf("Int: %d", n)
	}
	wantAt(t, "midway", r, api.OK, 0, 16, 16)
	if n := r.Hyper(); n != 0x0102030405060708 {
		t.Errorf("Hyper: %x", n)
	}
	if n := r.Hyper(); n != math.MaxUint64 {
		t.Errorf("Hyper: %x", n)
	}
	wantAt(t, "at the end", r, api.OK, 0, 32, 0)
}

// P1.6: truth values and enums, and those that may not stand there.
func TestReadBoolAndEnum(t *testing.T) {
	r := reading("\x00\x00\x00\x01\x00\x00\x00\x00\x00\x00\x00\x02\x00\x00\x00\x00\xff\xff\xff\xff")
	if !r.Bool() || r.Bool() || r.Enum(2) != 2 || r.Enum(0) != 0 || r.Enum(math.MaxUint32) != math.MaxUint32 {
		t.Error("other values")
	}
	wantAt(t, "at the end", r, api.OK, 0, 20, 0)
	for _, s := range []string{"\x00\x00\x00\x02", "\x01\x00\x00\x00", "\x01\x00\x00\x01", "\x00\x00\x01\x01", "\x00\x01\x00\x00", "\xff\xff\xff\xff"} {
		r := reading("\x00\x00\x00\x05" + s)
		r.Uint()
		if r.Bool() {
			t.Errorf("Bool of %x", s)
		}
		wantFail(t, "Bool", r, api.ErrBool, 4, 8)
	}
	for most, s := range map[uint32]string{0: "\x00\x00\x00\x01", 2: "\x00\x00\x00\x03", 255: "\x00\x00\x01\x00", 9: "\xff\xff\xff\xff"} {
		r := reading("\x00\x00\x00\x05" + s)
		r.Uint()
		if r.Enum(most) != 0 {
			t.Errorf("Enum(%d) of %x", most, s)
		}
		wantFail(t, "Enum", r, api.ErrEnum, 4, 8)
	}
}

// P1.6: fewer bytes than a value has; the place is where it begins.
func TestReadShortNumbers(t *testing.T) {
	for _, c := range []struct {
		name string
		size int
		get  func(r *xdr.Reader) bool
	}{
		{"Uint", 4, func(r *xdr.Reader) bool { return r.Uint() == 0 }},
		{"Int", 4, func(r *xdr.Reader) bool { return r.Int() == 0 }},
		{"Hyper", 8, func(r *xdr.Reader) bool { return r.Hyper() == 0 }},
		{"Bool", 4, func(r *xdr.Reader) bool { return !r.Bool() }},
		{"Enum", 4, func(r *xdr.Reader) bool { return r.Enum(0) == 0 }},
	} {
		for n := range c.size {
			s := "\xff\xff\xff\xff\xff\xff\xff\xff\xff\xff\xff\xff"[:4+n]
			r := reading(s)
			r.Uint()
			if !c.get(r) {
				t.Errorf("%s of %d bytes answers something", c.name, n)
			}
			wantFail(t, c.name, r, api.ErrShort, 4, len(s))
		}
	}
}

// P1.7: Fixed at lengths around multiples of four.
func TestReadFixed(t *testing.T) {
	for n := 1; n <= 9; n++ {
		whole := (n + 3) / 4 * 4
		body := "abcdefghi"[:n] + "\x00\x00\x00"[:whole-n]
		r := reading("\x00\x00\x00\x05" + body + "rest")
		r.Uint()
		if got := string(r.Fixed(n)); got != "abcdefghi"[:n] {
			t.Errorf("Fixed(%d): %q", n, got)
		}
		wantAt(t, "Fixed", r, api.OK, 0, 4+whole, 4)
		for short := range whole {
			r := reading("\x00\x00\x00\x05" + body[:short])
			r.Uint()
			if len(r.Fixed(n)) != 0 {
				t.Errorf("Fixed(%d) of %d bytes", n, short)
			}
			wantFail(t, "Fixed, short", r, api.ErrShort, 4, 4+short)
		}
		for at := n; at < whole; at++ {
			p := []byte("\x00\x00\x00\x05" + body)
			p[4+at] = 0x80
			r := xdr.NewReader(p)
			r.Uint()
			if len(r.Fixed(n)) != 0 {
				t.Errorf("Fixed(%d) with padding %x", n, p[4+n:])
			}
			wantFail(t, "Fixed, padding", r, api.ErrPad, 4, len(p))
		}
	}
}

// P1.7: Fixed of 0 and below, and of more than there can be.
func TestReadFixedEdges(t *testing.T) {
	for _, n := range []int{0, -1, -3, -4, math.MinInt} {
		for _, s := range []string{"", "\xff\xff"} {
			r := reading(s)
			if len(r.Fixed(n)) != 0 {
				t.Errorf("Fixed(%d)", n)
			}
			wantAt(t, "Fixed of none", r, api.OK, 0, 0, len(s))
		}
	}
	for _, n := range []int{math.MaxInt, math.MaxInt - 1, math.MaxInt - 2, math.MaxInt - 3, math.MaxInt - 4, math.MaxInt32} {
		r := reading("\x00\x00\x00\x05abcd")
		r.Uint()
		if len(r.Fixed(n)) != 0 {
			t.Errorf("Fixed(%d)", n)
		}
		wantFail(t, "Fixed of too many", r, api.ErrShort, 4, 8)
	}
}

// P1.7: Opaque and Text at lengths around multiples of four, with a most that just allows them.
func TestReadOpaque(t *testing.T) {
	for n := range 10 {
		whole := (n + 3) / 4 * 4
		s := "\x00\x00\x00" + string([]byte{byte(n)}) + "abcdefghi"[:n] + "\x00\x00\x00"[:whole-n]
		for _, most := range []int{n, n + 1, math.MaxInt} {
			r := reading(s + s + "rest")
			if got := string(r.Opaque(most)); got != "abcdefghi"[:n] {
				t.Errorf("Opaque(%d) of %d: %q", most, n, got)
			}
			if got := r.Text(most); got != "abcdefghi"[:n] {
				t.Errorf("Text(%d) of %d: %q", most, n, got)
			}
			wantAt(t, "Opaque and Text", r, api.OK, 0, 2*len(s), 4)
		}
	}
	if got := reading("\x00\x00\x00\x03\xff\x00\xc0\x00").Text(3); got != "\xff\x00\xc0" {
		t.Errorf("bytes that are no runes: %x", got)
	}
}

// P1.7: which of several errors comes first, at the place where the length begins.
func TestReadOpaqueErrors(t *testing.T) {
	for _, c := range []struct {
		s    string
		most int
		why  api.Errno
	}{
		{"", -1, api.ErrShort},
		{"", 9, api.ErrShort},
		{"\x00\x00\x09", 0, api.ErrShort},
		{"\xff\xff\xff", 9, api.ErrShort},
		{"\x00\x00\x00\x00", -1, api.ErrLong},
		{"\x00\x00\x00\x00", math.MinInt, api.ErrLong},
		{"\x00\x00\x00\x01", 0, api.ErrLong},
		{"\x00\x00\x00\x01a\x00\x00\x00", 0, api.ErrLong},
		{"\x00\x00\x00\x02ab\x00\x00", 1, api.ErrLong},
		{"\x00\x00\x00\x02ab\x01\x00", 1, api.ErrLong},
		{"\x00\x00\x00\x02ab", 1, api.ErrLong},
		{"\x80\x00\x00\x00", 9, api.ErrLong},
		{"\xff\xff\xff\xff", math.MaxInt32, api.ErrLong},
		{"\xff\xff\xff\xff", math.MaxInt, api.ErrShort},
		{"\xff\xff\xff\xfd", math.MaxInt, api.ErrShort},
		{"\x7f\xff\xff\xff", math.MaxInt32, api.ErrShort},
		{"\x00\x00\x00\x04abc", 9, api.ErrShort},
		{"\x00\x00\x00\x02ab", 9, api.ErrShort},
		{"\x00\x00\x00\x02ab\x00", 9, api.ErrShort},
		{"\x00\x00\x00\x02ab\x01", 9, api.ErrShort},
		{"\x00\x00\x00\x02ab\x00\x01", 9, api.ErrPad},
		{"\x00\x00\x00\x01a\x00\x01\x00", 9, api.ErrPad},
		{"\x00\x00\x00\x03abc\xff", 3, api.ErrPad},
	} {
		r := reading("\x00\x00\x00\x05" + c.s)
		r.Uint()
		if len(r.Opaque(c.most)) != 0 {
			t.Errorf("Opaque(%d) of %x answers something", c.most, c.s)
		}
		wantFail(t, "Opaque", r, c.why, 4, 4+len(c.s))
		r = reading("\x00\x00\x00\x05" + c.s)
		r.Uint()
		if r.Text(c.most) != "" {
			t.Errorf("Text(%d) of %x answers something", c.most, c.s)
		}
		wantFail(t, "Text", r, c.why, 4, 4+len(c.s))
	}
}

// P1.7 and rule 3: what is answered is new memory.
func TestReadBytesAreNew(t *testing.T) {
	s := "abcde\x00\x00\x00\x00\x00\x00\x02xy\x00\x00\x00\x00\x00\x07"
	r := reading(s)
	spoil(r.Fixed(5))
	p := r.Opaque(9)
	q := string(p)
	spoil(p)
	if n := r.Uint(); q != "xy" || n != 7 {
		t.Fatalf("answers share memory with the reader: %q, %d", q, n)
	}
	v := reading(s)
	a := v.Fixed(5)
	b := v.Opaque(9)
	spoil(a)
	if string(b) != "xy" {
		t.Fatal("answers share memory with each other")
	}
}

// P1.8: At, Left, Why and Done on the way, and behind an error.
func TestReaderTells(t *testing.T) {
	r := reading("\x00\x00\x00\x01\x00\x00\x00\x02\x00")
	if r.Done() != api.ErrTail {
		t.Fatalf("Done at the beginning: %d", r.Done())
	}
	wantAt(t, "ErrTail is no error of the reader", r, api.OK, 0, 0, 9)
	if r.Uint() != 1 || r.Uint() != 2 {
		t.Fatal("the reader does not go on behind Done")
	}
	wantAt(t, "ahead of the last byte", r, api.OK, 0, 8, 1)
	if r.Done() != api.ErrTail {
		t.Fatalf("Done ahead of the last byte: %d", r.Done())
	}
	r.Uint()
	wantFail(t, "behind the last value", r, api.ErrShort, 8, 9)
	r = reading("\x00\x00\x00\x01")
	r.Uint()
	if r.Done() != api.OK {
		t.Fatalf("Done at the end: %d", r.Done())
	}
	r.Uint()
	wantFail(t, "past the end", r, api.ErrShort, 4, 4)
	if xdr.NewReader(nil).Done() != api.OK {
		t.Fatal("Done of no bytes")
	}
}

// A nil Reader: 0, false, none, "", OK.
func TestNilReader(t *testing.T) {
	var r *xdr.Reader
	for name, nothing := range readings() {
		if !nothing(r) {
			t.Errorf("%s of a nil reader answers something", name)
		}
		wantAt(t, name, r, api.OK, 0, 0, 0)
	}
	never := func(*xdr.Reader) uint32 { t.Error("a value is read of a nil reader"); return 1 }
	if len(xdr.List(r, 9, never)) != 0 || len(xdr.Chain(r, 9, never)) != 0 || xdr.Option(r, never) != nil {
		t.Error("lists, chains, options of a nil reader")
	}
	if r.Done() != api.OK {
		t.Errorf("Done %d", r.Done())
	}
}
