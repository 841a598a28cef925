package xdr_test

import (
	"reflect"
	"testing"

	"granary/api"
	"granary/xdr"
)

// value is one of some kind, to be written and to be read back.
type value struct {
	kind string
	put  func(w *xdr.Writer)
	same func(r *xdr.Reader) bool
}

// alike holds lists against each other, in which nil and an empty one are the same.
func alike[T any](a, b []T) bool { return len(a) == len(b) && (len(a) == 0 || reflect.DeepEqual(a, b)) }

// throwList is fewer than n values of one.
func throwList[T any](d *dice, n int, one func(d *dice) T) []T {
	var l []T
	for range d.below(n) {
		l = append(l, one(d))
	}
	return l
}

func throwUint(d *dice) uint32 { return uint32(d.number()) }
func throwText(d *dice) string { return string(d.bytes(4)) }

// throwNumber is a value of one of the kinds of fixed size.
func throwNumber(d *dice) value {
	n := d.number()
	switch d.below(5) {
	case 0:
		return value{"Uint", func(w *xdr.Writer) { w.Uint(uint32(n)) }, func(r *xdr.Reader) bool { return r.Uint() == uint32(n) }}
	case 1:
		return value{"Int", func(w *xdr.Writer) { w.Int(int32(n)) }, func(r *xdr.Reader) bool { return r.Int() == int32(n) }}
	case 2:
		return value{"Hyper", func(w *xdr.Writer) { w.Hyper(n) }, func(r *xdr.Reader) bool { return r.Hyper() == n }}
	case 3:
		return value{"Bool", func(w *xdr.Writer) { w.Bool(n%2 == 1) }, func(r *xdr.Reader) bool { return r.Bool() == (n%2 == 1) }}
	}
	return value{"Enum", func(w *xdr.Writer) { w.Uint(uint32(n)) }, func(r *xdr.Reader) bool { return r.Enum(uint32(n)) == uint32(n) }}
}

// throwValue is a value of any kind.
func throwValue(d *dice) value {
	p := d.bytes(20)
	switch d.below(9) {
	case 0:
		return value{"Fixed", func(w *xdr.Writer) { w.Fixed(p) }, func(r *xdr.Reader) bool { return alike(r.Fixed(len(p)), p) }}
	case 1:
		return value{"Opaque", func(w *xdr.Writer) { w.Opaque(p, len(p)) }, func(r *xdr.Reader) bool { return alike(r.Opaque(len(p)), p) }}
	case 2:
		return value{"Text", func(w *xdr.Writer) { w.Text(string(p), 20) }, func(r *xdr.Reader) bool { return r.Text(20) == string(p) }}
	case 3:
		l := throwList(d, 5, throwText)
		return value{"List", func(w *xdr.Writer) { xdr.PutList(w, l, 4, putText) }, func(r *xdr.Reader) bool { return alike(xdr.List(r, 4, getText), l) }}
	case 4:
		l := throwList(d, 5, throwUint)
		return value{"Chain", func(w *xdr.Writer) { xdr.PutChain(w, l, putUint) }, func(r *xdr.Reader) bool { return alike(xdr.Chain(r, len(l), getUint), l) }}
	case 5:
		var v *uint32
		if n := throwUint(d); d.below(2) == 1 {
			v = &n
		}
		return value{"Option", func(w *xdr.Writer) { xdr.PutOption(w, v, putUint) }, func(r *xdr.Reader) bool { return reflect.DeepEqual(xdr.Option(r, getUint), v) }}
	}
	return throwNumber(d)
}

// P1.12: there and back, and a multiple of four bytes.
func TestThereAndBack(t *testing.T) {
	d := dice(12)
	kinds := map[string]int{}
	for range 3000 {
		l := throwList(&d, 12, throwValue)
		w := xdr.NewWriter()
		for _, v := range l {
			v.put(w)
			kinds[v.kind]++
		}
		p := w.Bytes()
		if w.Why() != api.OK || len(p)%4 != 0 {
			t.Fatalf("%d, %d bytes", w.Why(), len(p))
		}
		r := xdr.NewReader(p)
		for i, v := range l {
			if !v.same(r) {
				t.Fatalf("value %d, a %s, is read as another one of %x", i, v.kind, p)
			}
		}
		if r.Done() != api.OK || r.At() != len(p) {
			t.Fatalf("Done %d at %d of %d", r.Done(), r.At(), len(p))
		}
	}
	if len(kinds) != 11 {
		t.Fatalf("not all kinds were thrown: %v", kinds)
	}
}

// again reads a value of each kind and lays what it read.
func again() map[string]func(r *xdr.Reader, w *xdr.Writer) {
	return map[string]func(r *xdr.Reader, w *xdr.Writer){
		"Uint":   func(r *xdr.Reader, w *xdr.Writer) { w.Uint(r.Uint()) },
		"Int":    func(r *xdr.Reader, w *xdr.Writer) { w.Int(r.Int()) },
		"Hyper":  func(r *xdr.Reader, w *xdr.Writer) { w.Hyper(r.Hyper()) },
		"Bool":   func(r *xdr.Reader, w *xdr.Writer) { w.Bool(r.Bool()) },
		"Enum":   func(r *xdr.Reader, w *xdr.Writer) { w.Uint(r.Enum(3)) },
		"Fixed":  func(r *xdr.Reader, w *xdr.Writer) { w.Fixed(r.Fixed(5)) },
		"Opaque": func(r *xdr.Reader, w *xdr.Writer) { w.Opaque(r.Opaque(9), 9) },
		"Text":   func(r *xdr.Reader, w *xdr.Writer) { w.Text(r.Text(9), 9) },
		"List":   func(r *xdr.Reader, w *xdr.Writer) { xdr.PutList(w, xdr.List(r, 4, getWords), 4, putWords) },
		"Chain":  func(r *xdr.Reader, w *xdr.Writer) { xdr.PutChain(w, xdr.Chain(r, 4, getText), putText) },
		"Option": func(r *xdr.Reader, w *xdr.Writer) { xdr.PutOption(w, xdr.Option(r, getBytes), putBytes) },
	}
}

// wantOneForm: what is taken of p from a place on is what a writer would lay. It tells whether something was.
func wantOneForm(t *testing.T, kind string, p []byte, from int) bool {
	t.Helper()
	r, w := xdr.NewReader(p), xdr.NewWriter()
	r.Fixed(from)
	again()[kind](r, w)
	if why, place := r.Why(); why != api.OK {
		if place < from || place > len(p) || r.At() != place {
			t.Fatalf("%s of %x from %d: error %d at %d, At %d", kind, p, from, why, place, r.At())
		}
		return false
	}
	if got := string(p[from:r.At()]); got != string(w.Bytes()) {
		t.Fatalf("%s of %x from %d takes %x, whose form is %x", kind, p, from, got, w.Bytes())
	}
	return true
}

// P1.13: of bytes with any one of them changed, a reader takes those alone that a writer would lay.
func TestOneFormOfChangedBytes(t *testing.T) {
	n := []byte("hello")
	whole := map[string]string{
		"Uint":   laid(t, func(w *xdr.Writer) { w.Uint(7) }),
		"Int":    laid(t, func(w *xdr.Writer) { w.Int(-7) }),
		"Hyper":  laid(t, func(w *xdr.Writer) { w.Hyper(1 << 40) }),
		"Bool":   laid(t, func(w *xdr.Writer) { w.Bool(true) }),
		"Enum":   laid(t, func(w *xdr.Writer) { w.Uint(2) }),
		"Fixed":  laid(t, func(w *xdr.Writer) { w.Fixed(n) }),
		"Opaque": laid(t, func(w *xdr.Writer) { w.Opaque(n, 9) }),
		"Text":   laid(t, func(w *xdr.Writer) { w.Text("ab", 9) }),
		"List":   laid(t, func(w *xdr.Writer) { xdr.PutList(w, [][]string{{"a", ""}, nil, {"bcd"}}, 4, putWords) }),
		"Chain":  laid(t, func(w *xdr.Writer) { xdr.PutChain(w, []string{"a", "bc", ""}, putText) }),
		"Option": laid(t, func(w *xdr.Writer) { xdr.PutOption(w, &n, putBytes) }),
	}
	for kind, s := range whole {
		for _, ahead := range []string{"", "\x00\x00\x00\x00"} {
			from := len(ahead)
			if !wantOneForm(t, kind, []byte(ahead+s), from) {
				t.Fatalf("%s: its own form is not taken", kind)
			}
			for at := range len(s) {
				for b := range 256 {
					p := []byte(ahead + s + "\x00\x00\x00\x00")
					p[from+at] = byte(b)
					wantOneForm(t, kind, p, from)
				}
				if wantOneForm(t, kind, []byte(ahead+s[:at]), from) {
					t.Fatalf("%s of its first %d bytes is taken", kind, at)
				}
			}
		}
	}
}

// P1.13: of any bytes.
func TestOneFormOfAnyBytes(t *testing.T) {
	d := dice(13)
	taken := map[string]int{}
	for range 4000 {
		p := d.bytes(48)
		for i := range p {
			if i%4 != 3 || d.below(4) > 0 {
				p[i] = byte(d.below(20) / 19)
			}
		}
		for kind := range again() {
			if wantOneForm(t, kind, p, 0) {
				taken[kind]++
			}
		}
	}
	if len(taken) != len(again()) {
		t.Fatalf("of some kinds nothing was taken: %v", taken)
	}
}
