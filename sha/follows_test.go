package sha_test

import (
	"slices"
	"testing"

	"granary/api"
	"granary/sha"
)

// P5.8: whatever pieces bytes come in, saved and loaded in between, and asked.
func TestAnyPieces(t *testing.T) {
	dice := dice(72)
	for range 1500 {
		p := dice.bytes(dice.below(500))
		h, crc := sha.New(), sha.Crc(nil)
		at := 0
		for _, piece := range dice.pieces(p, 1+dice.below(150)) {
			h.Write(piece)
			crc = sha.More(crc, piece)
			at += len(piece)
			switch dice.below(3) {
			case 0:
				h = loaded(t, h.Save())
			case 1:
				has(t, "in between", h, p[:at])
			}
		}
		has(t, "whole", h, p)
		if sha.Sum(p) != h.Sum() || crc != sha.Crc(p) || crc != schoolCrc(p) {
			t.Fatalf("the sums of the whole and of the pieces of %x part", p)
		}
	}
}

// P5.8: saved and loaded behind each byte.
func TestByteByByte(t *testing.T) {
	dice := dice(73)
	p := dice.bytes(400)
	h, crc := sha.New(), uint32(0)
	for i := range p {
		h = loaded(t, h.Save())
		h.Write(p[i : i+1])
		crc = sha.More(crc, p[i:i+1])
		has(t, "byte by byte", h, p[:i+1])
		if crc != schoolCrc(p[:i+1]) {
			t.Fatalf("the Crc of %d bytes one by one: %x, want %x", i+1, crc, schoolCrc(p[:i+1]))
		}
	}
}

// P5.9: Climb by the Path leads to the Root, and another digest, or a digest of the path that is another, does not.
func TestClimbing(t *testing.T) {
	dice := dice(74)
	for n := 1; n <= 100; n++ {
		l := dice.digests(n)
		root := sha.Root(l)
		for i := range l {
			path, e := sha.Path(l, i)
			if e != api.OK {
				t.Fatalf("Path of %d among %d: error %d", i, n, e)
			}
			wantClimb(t, l[i], i, n, path, root, api.OK)
			other := l[i]
			other[dice.below(32)] ^= 1
			if got, e := sha.Climb(other, i, n, path); got == root || e != api.OK {
				t.Fatalf("Climb of another digest at %d among %d: the Root, or error %d", i, n, e)
			}
			if len(path) > 0 {
				wrong := slices.Clone(path)
				wrong[dice.below(len(path))][dice.below(32)] ^= 128
				if got, e := sha.Climb(l[i], i, n, wrong); got == root || e != api.OK {
					t.Fatalf("Climb of %d among %d by another path: the Root, or error %d", i, n, e)
				}
			}
		}
	}
}

// burst is p with the bits of mask turned from the bit on; those behind the end are left out.
func burst(p []byte, bit int, mask uint32) []byte {
	out := slices.Clone(p)
	for i := range 32 {
		if at := bit + i; mask>>i&1 == 1 && at < 8*len(p) {
			out[at/8] ^= 1 << (at % 8)
		}
	}
	return out
}

// wantOther: the bytes are others, and so is their Crc.
func wantOther(t *testing.T, p, q []byte) {
	t.Helper()
	if slices.Equal(p, q) {
		t.Fatal("nothing was turned")
	}
	if sha.Crc(p) == sha.Crc(q) {
		t.Fatalf("%x and %x have the Crc %x", p, q, sha.Crc(p))
	}
}

// P5.10: every single bit of bytes of many lengths.
func TestSingleBits(t *testing.T) {
	dice := dice(75)
	for n := range 150 {
		p := dice.bytes(n)
		for bit := range 8 * n {
			wantOther(t, p, burst(p, bit, 1))
		}
	}
	p := dice.bytes(512)
	for bit := range 8 * len(p) {
		wantOther(t, p, burst(p, bit, 1))
	}
}

// P5.10: all bursts within ten bits, and drawn ones within 32.
func TestBursts(t *testing.T) {
	dice := dice(76)
	for _, n := range []int{1, 2, 4, 5, 40} {
		p := dice.bytes(n)
		for bit := range 8 * n {
			for mask := uint32(1); mask < 1<<10; mask += 2 {
				wantOther(t, p, burst(p, bit, mask))
			}
		}
	}
	for range 20000 {
		p := dice.bytes(1 + dice.below(150))
		mask := uint32(dice.below(1<<16))<<16 | uint32(dice.below(1<<16)) | 1
		wantOther(t, p, burst(p, dice.below(8*len(p)), mask))
	}
	whole := dice.bytes(128)
	for bit := range 8*128 - 31 {
		for _, mask := range []uint32{1<<32 - 1, 1<<31 | 1, 0x82f63b79, 0x05ec76f1, 0x1edc6f41} {
			wantOther(t, whole, burst(whole, bit, mask))
		}
	}
}
