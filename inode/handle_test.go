package inode_test

import (
	"bytes"
	"strings"
	"testing"

	"granary/api"
	"granary/inode"
)

// someHandle is a handle with another byte everywhere.
func someHandle() api.Handle {
	return api.Handle{Fs: 0x01020304, Number: 0x1112131415161718, Generation: 0x21222324}
}

// TestHandleBytes: a handle's bytes, byte for byte (P12.8).
func TestHandleBytes(t *testing.T) {
	for _, c := range []struct {
		h api.Handle
		b string
	}{
		{someHandle(), "GRN1\x01\x02\x03\x04\x11\x12\x13\x14\x15\x16\x17\x18\x21\x22\x23\x24"},
		{api.Handle{Number: 1, Generation: 1}, "GRN1\x00\x00\x00\x00\x00\x00\x00\x00\x00\x00\x00\x01\x00\x00\x00\x01"},
		{api.Handle{Fs: 2, Number: 7, Generation: 3}, "GRN1\x00\x00\x00\x02\x00\x00\x00\x00\x00\x00\x00\x07\x00\x00\x00\x03"},
		{api.Handle{Fs: top32, Number: top64, Generation: top32}, "GRN1" + strings.Repeat("\xff", 16)},
	} {
		if b, e := inode.PutHandle(c.h); e != api.OK || string(b) != c.b {
			t.Errorf("PutHandle of %+v: %x, error %d, want %x", c.h, b, e, c.b)
		}
		if h, e := inode.GetHandle([]byte(c.b)); e != api.OK || h != c.h {
			t.Errorf("GetHandle of %x: %+v, error %d, want %+v", c.b, h, e, c.h)
		}
	}
}

// TestHandleNumbers: Fs may be any, Number and Generation any but 0 (P12.8, P12.9).
func TestHandleNumbers(t *testing.T) {
	for _, fs := range []uint32{0, 1, 1 << 31, top32} {
		for _, number := range []uint64{0, 1, 255, 256, 1 << 32, 1 << 63, top64} {
			for _, generation := range []uint32{0, 1, 256, 1 << 31, top32} {
				h := api.Handle{Fs: fs, Number: number, Generation: generation}
				b, e := inode.PutHandle(h)
				if number == 0 || generation == 0 {
					if b != nil || e != api.ErrHandle {
						t.Errorf("PutHandle of %+v: %x, error %d", h, b, e)
					}
				} else if e != api.OK || !bytes.Equal(b, plainHandle(h)) {
					t.Errorf("PutHandle of %+v: %x, error %d", h, b, e)
				}
				handles(t, plainHandle(h))
			}
		}
	}
}

// getsNoHandle: the bytes are no handle's.
func getsNoHandle(t *testing.T, b []byte) {
	t.Helper()
	if h, e := inode.GetHandle(b); e != api.ErrHandle || h != (api.Handle{}) {
		t.Errorf("GetHandle of %x: %+v, error %d", b, h, e)
	}
}

// TestHandleLengths: a handle has 20 bytes, no fewer and no more (P12.8).
func TestHandleLengths(t *testing.T) {
	for _, more := range []byte{0, 1, 'G', 0xff} {
		whole := append(plainHandle(someHandle()), bytes.Repeat([]byte{more}, 20)...)
		for n := range 41 {
			if n == 20 {
				handles(t, whole[:n])
			} else {
				getsNoHandle(t, whole[:n])
			}
			getsNoHandle(t, bytes.Repeat([]byte{more}, n))
		}
	}
	getsNoHandle(t, nil)
	getsNoHandle(t, []byte("GRN1"))
	getsNoHandle(t, append([]byte("GRN1"), make([]byte, 16)...))
	getsNoHandle(t, []byte(strings.Repeat("GRN1", 4)))
}

// TestHandleTurned: each byte is turned to each other one; those of the mark make it none (P12.8, P12.9).
func TestHandleTurned(t *testing.T) {
	for _, h := range []api.Handle{someHandle(), {Number: 1, Generation: 1}} {
		b := plainHandle(h)
		for at := range b {
			for change := 1; change < 256; change++ {
				b[at] ^= byte(change)
				handles(t, b)
				if at < 4 {
					getsNoHandle(t, b)
				}
				if y, e := inode.GetHandle(b); e == api.OK {
					if again, e := inode.PutHandle(y); e != api.OK || !bytes.Equal(again, b) {
						t.Errorf("PutHandle of %+v: %x, error %d, want %x", y, again, e, b)
					}
				}
				b[at] ^= byte(change)
			}
		}
	}
}
