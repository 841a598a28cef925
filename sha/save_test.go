package sha_test

import (
	"bytes"
	"math"
	"testing"

	"granary/api"
	"granary/sha"
)

// refused: no hash, and ErrSave.
func refused(t *testing.T, name string, p []byte) {
	t.Helper()
	if h, e := sha.Load(p); h != nil || e != api.ErrSave {
		t.Errorf("Load, %s: %v, error %d", name, h, e)
	}
}

// P5.3: what is saved behind every length, and goes on with any bytes when it is loaded.
func TestSave(t *testing.T) {
	dice := dice(55)
	p := dice.bytes(330)
	for n := range 200 {
		h := hashed(p[:n])
		save := h.Save()
		if want := schoolSave(t, p[:n]); !bytes.Equal(save, want) {
			t.Fatalf("Save behind %d: %x, want %x", n, save, want)
		}
		has(t, "loaded", loaded(t, save), p[:n])
		for _, more := range []int{0, 1, 63 - n%64, 64 - n%64, 65 - n%64, 64, 128, 130} {
			g := loaded(t, save)
			g.Write(p[n : n+more])
			has(t, "gone on", g, p[:n+more])
			has(t, "saved", h, p[:n])
		}
	}
}

// P5.3: whatever was loaded is saved the same.
func TestLoadSave(t *testing.T) {
	dice := dice(56)
	for n := range 200 {
		length := uint64(dice.below(1<<31))<<33 | uint64(dice.below(1<<20))<<6 | uint64(n%64)
		p := saved(dice.bytes(32), length, dice.bytes(n%64))
		h := loaded(t, p)
		if h.Len() != length || !bytes.Equal(h.Save(), p) {
			t.Fatalf("Save of what was loaded: %x, want %x", h.Save(), p)
		}
	}
}

// P5.3: a new hash and one loaded go their own ways.
func TestLoadedIsAnother(t *testing.T) {
	for n := range 130 {
		p := bytes.Repeat([]byte("b"), n)
		h := hashed(p)
		g := loaded(t, h.Save())
		g.Write([]byte("other bytes, beyond a piece: 64 of them are a whole one, so some more"))
		has(t, "the one that was saved", h, p)
		g = loaded(t, h.Save())
		h.Write([]byte("x"))
		has(t, "the one that was loaded", g, p)
		has(t, "the one that went on", h, append(p, 'x'))
	}
}

// P5.3: too few bytes for the state and Len.
func TestLoadShort(t *testing.T) {
	for _, fill := range []byte{0, 0xff} {
		for n := range 40 {
			refused(t, "short", bytes.Repeat([]byte{fill}, n))
		}
	}
	refused(t, "nil", nil)
	save := hashed(make([]byte, 200)).Save()
	for n := range len(save) {
		refused(t, "cut off", save[:n])
	}
}

// P5.3: every number of bytes that are left against every one that Len says; Len is eight bytes.
func TestLoadLengths(t *testing.T) {
	dice := dice(57)
	for says := range 64 {
		for _, whole := range []uint64{0, 64, 128, 1 << 16, 1 << 32, 1 << 40, 1 << 63, math.MaxUint64 - 63} {
			for left := range 130 {
				p := saved(dice.bytes(32), whole+uint64(says), dice.bytes(left))
				if left != says {
					refused(t, "lengths", p)
				} else if h := loaded(t, p); h.Len() != whole+uint64(says) {
					t.Fatalf("Len %d, want %d", h.Len(), whole+uint64(says))
				}
			}
		}
	}
}

// P5.3: whole pieces alone leave nothing, so that one byte more is too many.
func TestLoadWhole(t *testing.T) {
	for _, n := range []int{0, 64, 128, 640} {
		save := hashed(make([]byte, n)).Save()
		if len(save) != 40 {
			t.Errorf("Save behind %d: %d bytes", n, len(save))
		}
		has(t, "whole pieces", loaded(t, save), make([]byte, n))
		refused(t, "one byte more", append(save, 0))
		refused(t, "a piece more", append(save, make([]byte, 64)...))
	}
}

// P5.3: any state and any Len may stand there; the Len goes round beyond its greatest.
func TestLoadGreatest(t *testing.T) {
	dice := dice(58)
	for _, length := range []uint64{math.MaxUint64, math.MaxUint64 - 1, math.MaxUint64 - 63, math.MaxUint64 - 64, 1 << 61, 1<<61 - 1, 1<<61 + 63} {
		state, left := dice.bytes(32), dice.bytes(int(length%64))
		for _, n := range []int{0, 1, 2, 64, 65, 200} {
			p := dice.bytes(n)
			h := loaded(t, saved(state, length, left))
			h.Write(p)
			if want := schoolSum(t, state, length, left, p); h.Sum() != want || h.Len() != length+uint64(n) {
				t.Errorf("behind %d and %d bytes: Len %d, Sum %x, want %x", length, n, h.Len(), h.Sum(), want)
			}
			again := loaded(t, h.Save())
			if again.Sum() != h.Sum() || again.Len() != h.Len() {
				t.Errorf("behind %d and %d bytes: another hash when it is loaded", length, n)
			}
		}
	}
}
