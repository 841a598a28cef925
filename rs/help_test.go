package rs_test

import (
	"bytes"
	"testing"

	"granary/api"
	"granary/rs"
)

// school is the product of two elements as chapter 2 tells it: polynomials multiplied, then the remainder by hex 11d.
func school(a, b byte) byte {
	product := 0
	for i := range 8 {
		if b>>i&1 == 1 {
			product ^= int(a) << i
		}
	}
	for i := 14; i >= 8; i-- {
		if product>>i&1 == 1 {
			product ^= 0x11d << (i - 8)
		}
	}
	return byte(product)
}

// schoolTimes is all products, since the tests multiply much.
func schoolTimes() *[256][256]byte {
	all := new([256][256]byte)
	for a := range 256 {
		for b := range 256 {
			all[a][b] = school(byte(a), byte(b))
		}
	}
	return all
}

var times = schoolTimes()

// schoolInv is the b of which a times b is 1.
func schoolInv(a byte) byte {
	return byte(bytes.IndexByte(times[a][:], 1))
}

// schoolRow is the coefficients of the shard i as P3.2 tells them.
func schoolRow(k, i int) []byte {
	row := make([]byte, k)
	for j := range row {
		switch {
		case i >= k:
			row[j] = schoolInv(byte(i) ^ byte(j))
		case i == j:
			row[j] = 1
		}
	}
	return row
}

// schoolShard is the shard i of the data, byte by byte.
func schoolShard(data [][]byte, i int) []byte {
	row := schoolRow(len(data), i)
	out := make([]byte, len(data[0]))
	for t := range out {
		for j, p := range data {
			out[t] ^= times[row[j]][p[t]]
		}
	}
	return out
}

// schoolShards is the data with m parity shards behind.
func schoolShards(data [][]byte, m int) [][]byte {
	var all [][]byte
	for i := range len(data) + m {
		all = append(all, schoolShard(data, i))
	}
	return all
}

// code is a new one, where nothing can be wrong.
func code(t *testing.T, k, m int) *rs.Code {
	t.Helper()
	c, e := rs.New(k, m)
	if e != api.OK || c == nil {
		t.Fatalf("New(%d, %d): error %d", k, m, e)
	}
	return c
}

// codes calls do with a code of each k and m that may be.
func codes(t *testing.T, do func(c *rs.Code, k, m int)) {
	t.Helper()
	for k := 1; k <= 16; k++ {
		for m := 0; m <= 8; m++ {
			do(code(t, k, m), k, m)
		}
	}
}

// wantShards: the lists, and no error.
func wantShards(t *testing.T, name string, got [][]byte, e api.Errno, want [][]byte) {
	t.Helper()
	if e != api.OK || !same(got, want) {
		t.Fatalf("%s: %x, error %d, want %x", name, got, e, want)
	}
}

// wantNone: no list, and the error.
func wantNone[T any](t *testing.T, name string, got []T, e, want api.Errno) {
	t.Helper()
	if e != want || len(got) != 0 {
		t.Errorf("%s: %v, error %d, want none and error %d", name, got, e, want)
	}
}

// same: as many lists, each with the same bytes.
func same(a, b [][]byte) bool {
	if len(a) != len(b) {
		return false
	}
	for i := range a {
		if !bytes.Equal(a[i], b[i]) {
			return false
		}
	}
	return true
}

// copies is the lists in memory of their own.
func copies(lists [][]byte) [][]byte {
	var out [][]byte
	for _, p := range lists {
		out = append(out, append([]byte{}, p...))
	}
	return out
}

// blank is count lists of n zeros.
func blank(count, n int) [][]byte {
	out := make([][]byte, count)
	for i := range out {
		out[i] = make([]byte, n)
	}
	return out
}

// flags is n flags, all of them the same.
func flags(n int, flag bool) []bool {
	out := make([]bool, n)
	for i := range out {
		out[i] = flag
	}
	return out
}

// unset is n flags, set but for the bits of lost.
func unset(n, lost int) []bool {
	out := make([]bool, n)
	for i := range out {
		out[i] = lost>>i&1 == 0
	}
	return out
}

// dice is numbers that look thrown, the same ones each time.
type dice uint64

// below is the next number, of 0 to n - 1.
func (d *dice) below(n int) int {
	*d = *d*6364136223846793005 + 1442695040888963407
	return int(uint64(*d) >> 33 % uint64(n))
}

// bytes is n bytes.
func (d *dice) bytes(n int) []byte {
	p := make([]byte, n)
	for i := range p {
		p[i] = byte(d.below(256))
	}
	return p
}

// shards is count lists of n bytes.
func (d *dice) shards(count, n int) [][]byte {
	var out [][]byte
	for range count {
		out = append(out, d.bytes(n))
	}
	return out
}

// lost is count of n numbers, as bits.
func (d *dice) lost(count, n int) int {
	bits := 0
	for count > 0 {
		if i := d.below(n); bits>>i&1 == 0 {
			bits |= 1 << i
			count--
		}
	}
	return bits
}

// spoil writes over all of p, its spare room too.
func spoil(p []byte) {
	p = p[:cap(p)]
	for i := range p {
		p[i] = 0xee
	}
}

// roomy is the bytes of s in a list with spare room, which is told by its bytes.
func roomy(s []byte) []byte {
	p := make([]byte, len(s)+9)
	spoil(p)
	copy(p, s)
	return p[:len(s)]
}

// isRoomy: p is as roomy made it of s.
func isRoomy(p, s []byte) bool {
	return len(p) == len(s) && bytes.Equal(p[:cap(p)], roomy(s)[:len(s)+9])
}
