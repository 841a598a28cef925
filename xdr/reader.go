package xdr

import (
	"bytes"

	"granary/api"
)

// Reader goes through bytes. It stands at the place of its error, if it has
// one, so that at is that place too.
type Reader struct {
	data []byte
	at   int
	why  api.Errno
}

// NewReader: P1.5.
func NewReader(p []byte) *Reader { return &Reader{data: bytes.Clone(p)} }

// stuck tells whether nothing is read any more; a nil Reader never reads.
func (r *Reader) stuck() bool { return r == nil || r.why != api.OK }

// fail goes back to the place at which the value began. The first error stays.
func (r *Reader) fail(why api.Errno, at int) {
	if r.stuck() {
		return
	}
	r.why, r.at = why, at
}

// take moves past n bytes and their padding, and answers the bytes, which are
// still the reader's own. An error's place is from: of a value with a length,
// that stands ahead of these bytes.
func (r *Reader) take(n, from int) []byte {
	if n <= 0 || r.stuck() {
		return nil
	}
	pad, left := padding(n), r.Left()
	// No sum of n and pad ahead of this: n may be the greatest int.
	if n > left || pad > left-n {
		r.fail(api.ErrShort, from)
		return nil
	}
	end := r.at + n
	for _, b := range r.data[end : end+pad] {
		if b != 0 {
			r.fail(api.ErrPad, from)
			return nil
		}
	}
	p := r.data[r.at:end]
	r.at = end + pad
	return p
}

// number reads n bytes, the most significant one first; 0 with an error.
func (r *Reader) number(n int) uint64 {
	var v uint64
	for _, b := range r.take(n, r.At()) {
		v = v<<8 | uint64(b)
	}
	return v
}

// Uint: P1.6.
func (r *Reader) Uint() uint32 { return uint32(r.number(unit)) }

// Int: P1.6.
func (r *Reader) Int() int32 { return int32(r.Uint()) }

// Hyper: P1.6. Its eight bytes are taken at once, so that the place of an
// error is where all of it begins.
func (r *Reader) Hyper() uint64 { return r.number(2 * unit) }

// upTo reads a number that is at most most, or comes to the error why.
func (r *Reader) upTo(most uint32, why api.Errno) uint32 {
	at := r.At()
	n := r.Uint()
	if n > most {
		r.fail(why, at)
		return 0
	}
	return n
}

// Bool: P1.6.
func (r *Reader) Bool() bool { return r.upTo(1, api.ErrBool) == 1 }

// Enum: P1.6.
func (r *Reader) Enum(most uint32) uint32 { return r.upTo(most, api.ErrEnum) }

// Fixed: P1.7.
func (r *Reader) Fixed(n int) []byte { return bytes.Clone(r.take(n, r.At())) }

// Opaque: P1.7.
func (r *Reader) Opaque(most int) []byte { return bytes.Clone(r.counted(most)) }

// Text: P1.7.
func (r *Reader) Text(most int) string { return string(r.counted(most)) }

// counted is a length and that many bytes, which are still the reader's own.
func (r *Reader) counted(most int) []byte {
	from := r.At()
	return r.take(int(r.length(most)), from)
}

// length reads how many bytes or values follow; 0 with an error.
func (r *Reader) length(most int) uint32 {
	at := r.At()
	n := r.Uint()
	// In 64 bits on every machine: n may be above the greatest int of 32.
	if int64(n) > int64(most) {
		r.fail(api.ErrLong, at)
		return 0
	}
	return n
}

// At: P1.8.
func (r *Reader) At() int {
	if r == nil {
		return 0
	}
	return r.at
}

// Left: P1.8.
func (r *Reader) Left() int {
	if r == nil {
		return 0
	}
	return len(r.data) - r.at
}

// Why: P1.8.
func (r *Reader) Why() (api.Errno, int) {
	if r == nil || r.why == api.OK {
		return api.OK, 0
	}
	return r.why, r.at
}

// Done: P1.8.
func (r *Reader) Done() api.Errno {
	if why, _ := r.Why(); why != api.OK {
		return why
	}
	if r.Left() > 0 {
		return api.ErrTail
	}
	return api.OK
}
