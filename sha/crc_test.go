package sha_test

import (
	"bytes"
	"hash/crc32"
	"testing"

	"granary/sha"
)

// rising is n bytes from 0 on.
func rising(n int) []byte {
	p := make([]byte, n)
	for i := range p {
		p[i] = byte(i)
	}
	return p
}

// falling is n bytes down to 0.
func falling(n int) []byte {
	p := rising(n)
	for i := range p {
		p[i] = byte(n - 1 - i)
	}
	return p
}

// P5.5: the published sums.
func TestCrcPublished(t *testing.T) {
	for _, c := range []struct {
		p    []byte
		want uint32
	}{
		{nil, 0},
		{[]byte("123456789"), 0xe3069283},
		{make([]byte, 32), 0x8a9136aa},
		{bytes.Repeat([]byte{0xff}, 32), 0x62a8ab43},
		{rising(32), 0x46dd794e},
		{falling(32), 0x113fdb5c},
		{[]byte("a"), 0xc1d04330},
	} {
		if got := sha.Crc(c.p); got != c.want {
			t.Errorf("Crc(%x): %x, want %x", c.p, got, c.want)
		}
	}
	if sha.More(sha.Crc([]byte("1234")), []byte("56789")) != 0xe3069283 {
		t.Error("the document's More")
	}
}

// P5.5: bytes of every length, and each byte alone.
func TestCrc(t *testing.T) {
	table := crc32.MakeTable(crc32.Castagnoli)
	dice := dice(63)
	for n := range 600 {
		for _, p := range [][]byte{dice.bytes(n), make([]byte, n), bytes.Repeat([]byte{0xff}, n)} {
			if got, want := sha.Crc(p), schoolCrc(p); got != want || want != crc32.Checksum(p, table) {
				t.Fatalf("Crc(%x): %x, want %x", p, got, want)
			}
		}
	}
	for b := range 256 {
		if p := []byte{byte(b)}; sha.Crc(p) != schoolCrc(p) {
			t.Fatalf("Crc(%x): %x, want %x", p, sha.Crc(p), schoolCrc(p))
		}
	}
}

// P5.5: More over every cut of drawn bytes.
func TestMore(t *testing.T) {
	dice := dice(64)
	for n := range 200 {
		p := dice.bytes(n)
		for cut := range n + 1 {
			if got := sha.More(sha.Crc(p[:cut]), p[cut:]); got != schoolCrc(p) {
				t.Fatalf("More, cut at %d of %x: %x, want %x", cut, p, got, schoolCrc(p))
			}
		}
	}
}

// P5.5: any number is the Crc of some four bytes; More goes on from each.
func TestMoreFromAny(t *testing.T) {
	table := crc32.MakeTable(crc32.Castagnoli)
	dice := dice(65)
	crcs := []uint32{0, 1, 1 << 31, 1<<32 - 1, 0x82f63b78}
	for range 300 {
		crcs = append(crcs, uint32(dice.below(1<<16))<<16|uint32(dice.below(1<<16)))
	}
	for _, crc := range crcs {
		if sha.More(crc, nil) != crc || sha.More(crc, []byte{}) != crc {
			t.Fatalf("More(%x) by no bytes: %x", crc, sha.More(crc, nil))
		}
		p := dice.bytes(1 + dice.below(20))
		if got, want := sha.More(crc, p), crc32.Update(crc, table, p); got != want {
			t.Fatalf("More(%x, %x): %x, want %x", crc, p, got, want)
		}
	}
}
