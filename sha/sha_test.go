package sha_test

import (
	"bytes"
	"strings"
	"testing"

	"granary/api"
	"granary/sha"
)

// P5.1: the published digests.
func TestPublished(t *testing.T) {
	for text, want := range map[string]string{
		"":    "e3b0c442 98fc1c14 9afbf4c8 996fb924 27ae41e4 649b934c a495991b 7852b855",
		"abc": "ba7816bf 8f01cfea 414140de 5dae2223 b00361a3 96177a9c b410ff61 f20015ad",
		"abcdbcdecdefdefgefghfghighijhijkijkljklmklmnlmnomnopnopq":                                                         "248d6a61 d20638b8 e5c02693 0c3e6039 a33ce459 64ff2167 f6ecedd4 19db06c1",
		"abcdefghbcdefghicdefghijdefghijkefghijklfghijklmghijklmnhijklmnoijklmnopjklmnopqklmnopqrlmnopqrsmnopqrstnopqrstu": "cf5b16a7 78af8380 036ce59e 7b049237 0b249b11 e8f07a51 afac4503 7afee9d1",
		strings.Repeat("a", 1000000): "cdc76e5c 9914fb92 81a1c7e2 84d73e67 f1809a48 a497200e 046d39cc c7112cd0",
	} {
		if got := sha.Sum([]byte(text)); got != digest(t, want) {
			t.Errorf("Sum of %d bytes: %x, want %s", len(text), got, want)
		}
	}
}

// P5.1: bytes of every length, drawn and all the same.
func TestLengths(t *testing.T) {
	dice := dice(51)
	for n := range 700 {
		for _, p := range [][]byte{dice.bytes(n), make([]byte, n), bytes.Repeat([]byte{0xff}, n), bytes.Repeat([]byte{0x80}, n)} {
			if got := sha.Sum(p); got != school(p) {
				t.Fatalf("Sum of %x: %x, want %x", p, got, school(p))
			}
		}
	}
	if sha.Sum(nil) != sha.Sum([]byte{}) {
		t.Error("nil and an empty list are not the same")
	}
}

// P5.1: every bit of a piece tells.
func TestBits(t *testing.T) {
	for bit := range 65 * 8 {
		p := make([]byte, 65)
		p[bit/8] = 1 << (bit % 8)
		if got := sha.Sum(p); got != school(p) {
			t.Fatalf("Sum of the bit %d: %x, want %x", bit, got, school(p))
		}
	}
}

// P5.2: a new hash has no bytes, and is one of its own.
func TestNew(t *testing.T) {
	a, b := sha.New(), sha.New()
	has(t, "New", a, nil)
	a.Write([]byte("a"))
	has(t, "written", a, []byte("a"))
	has(t, "the other one", b, nil)
}

// P5.2: pieces of every size, with empty ones among them.
func TestPieces(t *testing.T) {
	dice := dice(52)
	p := dice.bytes(300)
	for size := 1; size <= 300; size++ {
		h := sha.New()
		for at := 0; at < len(p); at += size {
			h.Write(nil)
			h.Write(p[at:min(at+size, len(p))])
			h.Write([]byte{})
		}
		has(t, "pieces", h, p)
	}
}

// P5.2: every length, cut at every place.
func TestCuts(t *testing.T) {
	dice := dice(53)
	p := dice.bytes(200)
	for n := range len(p) + 1 {
		for cut := range n + 1 {
			has(t, "cut", hashed(p[:cut], p[cut:n]), p[:n])
		}
	}
}

// P5.2: Sum, Len and Save between any two Writes change nothing.
func TestAskedBetween(t *testing.T) {
	dice := dice(54)
	p := dice.bytes(260)
	for step := 1; step < 70; step++ {
		h := sha.New()
		for at := 0; at < len(p); at += step {
			for range 2 {
				has(t, "ahead", h, p[:at])
				h.Save()
			}
			h.Write(p[at:min(at+step, len(p))])
		}
		has(t, "whole", h, p)
	}
}

// P5.2: Write puts nothing behind for no bytes, at whatever length.
func TestEmptyPiece(t *testing.T) {
	for n := range 130 {
		p := make([]byte, n)
		h := hashed(p, nil, []byte{}, nil)
		has(t, "empty pieces", h, p)
		if !bytes.Equal(h.Save(), hashed(p).Save()) {
			t.Fatalf("an empty piece behind %d bytes is saved", n)
		}
	}
}

// Section 5.3: what a nil Hash answers.
func TestNil(t *testing.T) {
	var h *sha.Hash
	for range 2 {
		if h.Len() != 0 || h.Sum() != school() || len(h.Save()) != 0 {
			t.Errorf("nil: Len %d, Sum %x, Save %x", h.Len(), h.Sum(), h.Save())
		}
		h.Write([]byte("abc"))
		h.Write(nil)
	}
}

// A digest is a value: to change one that was answered changes nothing else.
func TestDigestIsValue(t *testing.T) {
	h := hashed([]byte("abc"))
	d := h.Sum()
	d[0]++
	if h.Sum() != school([]byte("abc")) || d == (api.Digest{}) {
		t.Errorf("Sum behind a change: %x", h.Sum())
	}
}
