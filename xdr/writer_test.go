package xdr_test

import (
	"math"
	"testing"

	"granary/api"
	"granary/xdr"
)

// P1.1: a new writer has nothing, and writers do not share.
func TestNewWriter(t *testing.T) {
	w, v := xdr.NewWriter(), xdr.NewWriter()
	if w == nil || w == v {
		t.Fatal("no new writer")
	}
	if len(w.Bytes()) != 0 || w.Why() != api.OK {
		t.Fatalf("a new writer has %x, %d", w.Bytes(), w.Why())
	}
	w.Uint(1)
	if len(v.Bytes()) != 0 {
		t.Fatal("two writers share their bytes")
	}
	w.Text("long", 1)
	if v.Why() != api.OK || xdr.NewWriter().Why() != api.OK {
		t.Fatal("two writers share their error")
	}
}

// P1.1: the first error stays, and nothing is written behind it, by whichever call.
func TestWriterStaysStuck(t *testing.T) {
	n := uint32(5)
	calls := map[string]func(w *xdr.Writer){
		"Uint":             func(w *xdr.Writer) { w.Uint(1) },
		"Int":              func(w *xdr.Writer) { w.Int(1) },
		"Hyper":            func(w *xdr.Writer) { w.Hyper(1) },
		"Bool true":        func(w *xdr.Writer) { w.Bool(true) },
		"Bool false":       func(w *xdr.Writer) { w.Bool(false) },
		"Fixed":            func(w *xdr.Writer) { w.Fixed([]byte{1}) },
		"Opaque":           func(w *xdr.Writer) { w.Opaque([]byte{1}, 9) },
		"Opaque, too long": func(w *xdr.Writer) { w.Opaque([]byte{1}, 0) },
		"Text":             func(w *xdr.Writer) { w.Text("a", 9) },
		"PutList":          func(w *xdr.Writer) { xdr.PutList(w, []uint32{1}, 9, putUint) },
		"PutList of none":  func(w *xdr.Writer) { xdr.PutList(w, nil, 9, putUint) },
		"PutChain":         func(w *xdr.Writer) { xdr.PutChain(w, []uint32{1}, putUint) },
		"PutChain of none": func(w *xdr.Writer) { xdr.PutChain(w, nil, putUint) },
		"PutOption":        func(w *xdr.Writer) { xdr.PutOption(w, &n, putUint) },
		"PutOption of nil": func(w *xdr.Writer) { xdr.PutOption(w, nil, putUint) },
	}
	for name, call := range calls {
		w := xdr.NewWriter()
		w.Uint(7)
		w.Text("abc", 2)
		call(w)
		if string(w.Bytes()) != "\x00\x00\x00\x07" || w.Why() != api.ErrLong {
			t.Errorf("%s behind an error: %x, %d", name, w.Bytes(), w.Why())
		}
	}
}

// P1.2: numbers and truth values.
func TestWriteNumbers(t *testing.T) {
	for n, want := range map[uint32]string{
		0: "\x00\x00\x00\x00", 1: "\x00\x00\x00\x01", 258: "\x00\x00\x01\x02", 0x01020304: "\x01\x02\x03\x04",
		1 << 31: "\x80\x00\x00\x00", math.MaxUint32: "\xff\xff\xff\xff",
	} {
		wantLaid(t, "Uint", want, func(w *xdr.Writer) { w.Uint(n) })
	}
	for n, want := range map[int32]string{
		0: "\x00\x00\x00\x00", 258: "\x00\x00\x01\x02", -1: "\xff\xff\xff\xff", -2: "\xff\xff\xff\xfe",
		math.MaxInt32: "\x7f\xff\xff\xff", math.MinInt32: "\x80\x00\x00\x00",
	} {
		wantLaid(t, "Int", want, func(w *xdr.Writer) { w.Int(n) })
	}
	for n, want := range map[uint64]string{
		0: "\x00\x00\x00\x00\x00\x00\x00\x00", 0x0102030405060708: "\x01\x02\x03\x04\x05\x06\x07\x08",
		1 << 32: "\x00\x00\x00\x01\x00\x00\x00\x00", math.MaxUint32: "\x00\x00\x00\x00\xff\xff\xff\xff",
		math.MaxUint64: "\xff\xff\xff\xff\xff\xff\xff\xff",
	} {
		wantLaid(t, "Hyper", want, func(w *xdr.Writer) { w.Hyper(n) })
	}
	wantLaid(t, "Bool true", "\x00\x00\x00\x01", func(w *xdr.Writer) { w.Bool(true) })
	wantLaid(t, "Bool false", "\x00\x00\x00\x00", func(w *xdr.Writer) { w.Bool(false) })
}

// P1.3: bytes and their padding, at lengths around multiples of four.
func TestWriteBytes(t *testing.T) {
	for s, body := range map[string]string{
		"": "", "\xff": "\xff\x00\x00\x00", "ab": "ab\x00\x00", "abc": "abc\x00", "abcd": "abcd",
		"abcde": "abcde\x00\x00\x00", "abcdefg": "abcdefg\x00", "abcdefgh": "abcdefgh",
	} {
		length := string([]byte{0, 0, 0, byte(len(s))})
		wantLaid(t, "Fixed "+s, body, func(w *xdr.Writer) { w.Fixed([]byte(s)) })
		for _, most := range []int{len(s), len(s) + 1, math.MaxInt} {
			wantLaid(t, "Opaque "+s, length+body, func(w *xdr.Writer) { w.Opaque([]byte(s), most) })
			wantLaid(t, "Text "+s, length+body, func(w *xdr.Writer) { w.Text(s, most) })
		}
	}
	wantLaid(t, "Fixed of nil", "", func(w *xdr.Writer) { w.Fixed(nil) })
	wantLaid(t, "Opaque of nil", "\x00\x00\x00\x00", func(w *xdr.Writer) { w.Opaque(nil, 0) })
	wantLaid(t, "one behind the other", "a\x00\x00\x00\x00\x00\x00\x01b\x00\x00\x00", func(w *xdr.Writer) {
		w.Fixed([]byte("a"))
		w.Text("b", 1)
	})
}

// P1.3: a length of more than one byte stands in all four.
func TestWriteLongBytes(t *testing.T) {
	p := make([]byte, 0x010203)
	p[0], p[len(p)-1] = 5, 6
	got := laid(t, func(w *xdr.Writer) { w.Opaque(p, len(p)) })
	if got != "\x00\x01\x02\x03"+string(p)+"\x00" {
		t.Fatalf("%d bytes, beginning %x", len(got), got[:8])
	}
	if laid(t, func(w *xdr.Writer) { w.Text(string(p), len(p)) }) != got {
		t.Fatal("Text and Opaque part")
	}
}

// P1.3: more than most bytes are refused; every length is above a most below 0.
func TestWriteTooLong(t *testing.T) {
	for _, c := range []struct {
		s    string
		most int
	}{{"a", 0}, {"abc", 2}, {"abcde", 4}, {"", -1}, {"", math.MinInt}, {"abc", -1}} {
		for name, put := range map[string]func(w *xdr.Writer){
			"Opaque": func(w *xdr.Writer) { w.Opaque([]byte(c.s), c.most) },
			"Text":   func(w *xdr.Writer) { w.Text(c.s, c.most) },
		} {
			w := xdr.NewWriter()
			w.Uint(9)
			put(w)
			if w.Why() != api.ErrLong || string(w.Bytes()) != "\x00\x00\x00\x09" {
				t.Errorf("%s(%q, %d): %d, %x", name, c.s, c.most, w.Why(), w.Bytes())
			}
		}
	}
}

// P1.4: Bytes and Why tell, and change nothing.
func TestWriterTells(t *testing.T) {
	w := xdr.NewWriter()
	w.Uint(1)
	for range 2 {
		if string(w.Bytes()) != "\x00\x00\x00\x01" || w.Why() != api.OK {
			t.Fatalf("%x, %d", w.Bytes(), w.Why())
		}
	}
	w.Bool(false)
	if string(w.Bytes()) != "\x00\x00\x00\x01\x00\x00\x00\x00" {
		t.Fatalf("%x", w.Bytes())
	}
	w.Text("a", 0)
	for range 2 {
		if string(w.Bytes()) != "\x00\x00\x00\x01\x00\x00\x00\x00" || w.Why() != api.ErrLong {
			t.Fatalf("%x, %d", w.Bytes(), w.Why())
		}
	}
}

// Rule 3: what is handed to a writer is neither changed nor kept.
func TestWriterKeepsNothing(t *testing.T) {
	p, q := roomy("abcde"), roomy("xy")
	w := xdr.NewWriter()
	w.Fixed(p)
	w.Opaque(q, 2)
	w.Uint(3)
	wantRoomy(t, "Fixed", p, "abcde")
	wantRoomy(t, "Opaque", q, "xy")
	want := "abcde\x00\x00\x00\x00\x00\x00\x02xy\x00\x00\x00\x00\x00\x03"
	spoil(p)
	spoil(q)
	if string(w.Bytes()) != want {
		t.Fatalf("the writer keeps what it was handed: %x", w.Bytes())
	}
	v := xdr.NewWriter()
	r := roomy("abc")
	v.Opaque(r, 2)
	wantRoomy(t, "Opaque that is refused", r, "abc")
}

// Rule 3: Bytes answers new memory each time.
func TestBytesAreNew(t *testing.T) {
	w := xdr.NewWriter()
	w.Uint(1)
	a, b := w.Bytes(), w.Bytes()
	spoil(a)
	w.Uint(2)
	if string(b) != "\x00\x00\x00\x01" || string(w.Bytes()) != "\x00\x00\x00\x01\x00\x00\x00\x02" {
		t.Fatalf("answers share memory: %x, %x", b, w.Bytes())
	}
	c := w.Bytes()
	w.Uint(3)
	spoil(c)
	if string(w.Bytes()) != "\x00\x00\x00\x01\x00\x00\x00\x02\x00\x00\x00\x03" {
		t.Fatalf("an answer's spare room is the writer's: %x", w.Bytes())
	}
}

// A nil Writer: OK, none, nothing.
func TestNilWriter(t *testing.T) {
	var w *xdr.Writer
	n := uint32(1)
	never := func(*xdr.Writer, uint32) { t.Error("a nil writer has a value written") }
	w.Uint(1)
	w.Int(1)
	w.Hyper(1)
	w.Bool(true)
	w.Fixed([]byte{1})
	w.Opaque([]byte{1}, 1)
	w.Opaque([]byte{1}, 0)
	w.Text("a", 1)
	w.Text("a", -1)
	xdr.PutList(w, []uint32{1}, 1, never)
	xdr.PutList(w, []uint32{1}, 0, never)
	xdr.PutChain(w, []uint32{1}, never)
	xdr.PutOption(w, &n, never)
	xdr.PutOption(w, nil, never)
	if len(w.Bytes()) != 0 || w.Why() != api.OK {
		t.Fatalf("%x, %d", w.Bytes(), w.Why())
	}
}
