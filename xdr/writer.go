package xdr

import (
	"bytes"

	"granary/api"
)

// Writer lays values into bytes.
type Writer struct {
	laid []byte
	why  api.Errno
}

// NewWriter: P1.1.
func NewWriter() *Writer { return &Writer{} }

// stuck tells whether nothing is written any more; a nil Writer never writes.
func (w *Writer) stuck() bool { return w == nil || w.why != api.OK }

// Uint: P1.2.
func (w *Writer) Uint(n uint32) {
	if w.stuck() {
		return
	}
	w.laid = append(w.laid, byte(n>>24), byte(n>>16), byte(n>>8), byte(n))
}

// Int: P1.2.
func (w *Writer) Int(n int32) { w.Uint(uint32(n)) }

// Hyper: P1.2.
func (w *Writer) Hyper(n uint64) {
	w.Uint(uint32(n >> 32))
	w.Uint(uint32(n))
}

// Bool: P1.2.
func (w *Writer) Bool(b bool) {
	if b {
		w.Uint(1)
		return
	}
	w.Uint(0)
}

// Fixed: P1.3.
func (w *Writer) Fixed(p []byte) {
	if w.stuck() {
		return
	}
	var zeros [unit]byte
	w.laid = append(w.laid, p...)
	w.laid = append(w.laid, zeros[:padding(len(p))]...)
}

// Opaque: P1.3.
func (w *Writer) Opaque(p []byte, most int) {
	if w.length(len(p), most) {
		w.Fixed(p)
	}
}

// Text: P1.3.
func (w *Writer) Text(s string, most int) { w.Opaque([]byte(s), most) }

// Bytes: P1.4.
func (w *Writer) Bytes() []byte {
	if w == nil {
		return nil
	}
	return bytes.Clone(w.laid)
}

// Why: P1.4.
func (w *Writer) Why() api.Errno {
	if w == nil {
		return api.OK
	}
	return w.why
}

// length lays how many bytes or values follow, and tells whether they may. It
// looks at most ahead of laying, so that what is refused leaves no trace.
func (w *Writer) length(n, most int) bool {
	if w.stuck() {
		return false
	}
	if n > most {
		w.why = api.ErrLong
		return false
	}
	w.Uint(uint32(n))
	return true
}
