package inode

import "granary/api"

// How a handle begins, and how long it is.
const (
	handleMark  = "GRN1"
	handleBytes = len(handleMark) + 2*wordBytes + longBytes
)

// PutHandle: P12.8.
func PutHandle(h api.Handle) ([]byte, api.Errno) {
	if !canName(h) {
		return nil, api.ErrHandle
	}
	out := lay([]byte(handleMark), wordBytes, uint64(h.Fs))
	out = lay(out, longBytes, h.Number)
	return lay(out, wordBytes, uint64(h.Generation)), api.OK
}

// GetHandle: P12.8.
func GetHandle(b []byte) (api.Handle, api.Errno) {
	if len(b) != handleBytes || string(b[:len(handleMark)]) != handleMark {
		return api.Handle{}, api.ErrHandle
	}
	s := source{b[len(handleMark):]}
	h := api.Handle{Fs: s.word(), Number: s.long(), Generation: s.word()}
	if !canName(h) {
		return api.Handle{}, api.ErrHandle
	}
	return h, api.OK
}

// canName: there can be an inode that the handle names.
func canName(h api.Handle) bool { return h.Number != 0 && h.Generation != 0 }
