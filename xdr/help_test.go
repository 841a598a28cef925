package xdr_test

import (
	"testing"

	"granary/api"
	"granary/xdr"
)

// laid is what a new writer has behind put; it must come to no error.
func laid(t *testing.T, put func(w *xdr.Writer)) string {
	t.Helper()
	w := xdr.NewWriter()
	put(w)
	if w.Why() != api.OK {
		t.Fatalf("error %d in writing", w.Why())
	}
	return string(w.Bytes())
}

// wantLaid holds what put lays against want.
func wantLaid(t *testing.T, name, want string, put func(w *xdr.Writer)) {
	t.Helper()
	if got := laid(t, put); got != want {
		t.Errorf("%s: %x laid, want %x", name, got, want)
	}
}

// wantAt holds a reader's error and its place, and where the reader stands, against what they must be.
func wantAt(t *testing.T, name string, r *xdr.Reader, why api.Errno, place, at, left int) {
	t.Helper()
	if e, p := r.Why(); e != why || p != place {
		t.Errorf("%s: Why %d, %d, want %d, %d", name, e, p, why, place)
	}
	if r.At() != at || r.Left() != left {
		t.Errorf("%s: At %d, Left %d, want %d, %d", name, r.At(), r.Left(), at, left)
	}
}

// wantFail: the reader came to the error why at the place, and stands there, of so many bytes.
func wantFail(t *testing.T, name string, r *xdr.Reader, why api.Errno, place, of int) {
	t.Helper()
	wantAt(t, name, r, why, place, place, of-place)
	if r.Done() != why {
		t.Errorf("%s: Done %d, want %d", name, r.Done(), why)
	}
}

// reading is a reader of the bytes of s.
func reading(s string) *xdr.Reader { return xdr.NewReader([]byte(s)) }

func putUint(w *xdr.Writer, n uint32)    { w.Uint(n) }
func getUint(r *xdr.Reader) uint32       { return r.Uint() }
func putText(w *xdr.Writer, s string)    { w.Text(s, 3) }
func getText(r *xdr.Reader) string       { return r.Text(3) }
func putBytes(w *xdr.Writer, p []byte)   { w.Opaque(p, 9) }
func getBytes(r *xdr.Reader) []byte      { return r.Opaque(9) }
func putWords(w *xdr.Writer, l []string) { xdr.PutList(w, l, 4, putText) }
func getWords(r *xdr.Reader) []string    { return xdr.List(r, 4, getText) }

// spoil writes over all of p, its spare room too.
func spoil(p []byte) {
	p = p[:cap(p)]
	for i := range p {
		p[i] = 0xee
	}
}

// roomy is the bytes of s in a list with spare room, which is told by its bytes.
func roomy(s string) []byte {
	p := make([]byte, len(s)+9)
	spoil(p)
	copy(p, s)
	return p[:len(s)]
}

// wantRoomy: p is as roomy made it of s.
func wantRoomy(t *testing.T, name string, p []byte, s string) {
	t.Helper()
	if string(p[:cap(p)]) != string(roomy(s)[:len(s)+9]) {
		t.Errorf("%s: what was handed in was changed: %x", name, p[:cap(p)])
	}
}

// dice is numbers that look thrown, the same ones each time.
type dice uint64

// below is the next number, of 0 to n - 1.
func (d *dice) below(n int) int {
	*d = *d*6364136223846793005 + 1442695040888963407
	return int(uint64(*d) >> 33 % uint64(n))
}

// number is the next one of 64 bits: a small one, one around a bound, or any.
func (d *dice) number() uint64 {
	bounds := []uint64{0, 1, 2, 1<<31 - 1, 1 << 31, 1<<32 - 1, 1 << 32, 1<<63 - 1, 1 << 63, 1<<64 - 1}
	switch d.below(3) {
	case 0:
		return uint64(d.below(300))
	case 1:
		return bounds[d.below(len(bounds))]
	}
	return uint64(d.below(1<<31))<<33 ^ uint64(d.below(1<<31))<<7 ^ uint64(d.below(256))
}

// bytes is fewer than n bytes.
func (d *dice) bytes(n int) []byte {
	p := make([]byte, d.below(n))
	for i := range p {
		p[i] = byte(d.below(256))
	}
	return p
}
