package rs_test

import (
	"bytes"
	"math"
	"testing"

	"granary/api"
	"granary/rs"
)

// P3.1: all codes that may be.
func TestNew(t *testing.T) {
	codes(t, func(c *rs.Code, k, m int) {
		if c.Data() != k || c.Parity() != m {
			t.Errorf("New(%d, %d): %d data, %d parity", k, m, c.Data(), c.Parity())
		}
	})
}

// P3.1: those that may not.
func TestNewWrong(t *testing.T) {
	for _, w := range [][2]int{
		{0, 1}, {0, 0}, {-1, 1}, {17, 1}, {17, 0}, {18, 8}, {math.MinInt, 1}, {math.MaxInt, 1}, {256, 1}, {257, 1}, {1 << 32, 1}, {1<<32 + 1, 1},
		{1, -1}, {16, -1}, {1, 9}, {16, 9}, {2, math.MinInt}, {2, math.MaxInt}, {2, 256}, {2, 1 << 32},
		{0, 9}, {17, 9}, {0, -1}, {-1, -1}, {-2, 4}, {math.MaxInt, math.MaxInt}, {math.MinInt, math.MinInt},
	} {
		if c, e := rs.New(w[0], w[1]); c != nil || e != api.ErrArg {
			t.Errorf("New(%d, %d): %v, error %d, want nil and ErrArg", w[0], w[1], c, e)
		}
	}
}

// P3.2: the rows of all codes.
func TestRow(t *testing.T) {
	codes(t, func(c *rs.Code, k, m int) {
		for i := range k + m {
			if row := c.Row(i); !bytes.Equal(row, schoolRow(k, i)) {
				t.Errorf("k %d, m %d: Row(%d): %x, want %x", k, m, i, row, schoolRow(k, i))
			}
		}
	})
	c := code(t, 2, 1)
	for i, want := range []string{"\x01\x00", "\x00\x01", "\x8e\xf4"} {
		if string(c.Row(i)) != want {
			t.Errorf("k 2, m 1: Row(%d): %x, want %x", i, c.Row(i), want)
		}
	}
}

// P3.2: of no shard there is no row.
func TestRowOfNone(t *testing.T) {
	codes(t, func(c *rs.Code, k, m int) {
		for _, i := range []int{-1, -2, -k, k + m, k + m + 1, k + m + k, 256, 1 << 32, math.MinInt, math.MaxInt} {
			if row := c.Row(i); len(row) != 0 {
				t.Errorf("k %d, m %d: Row(%d): %x, want none", k, m, i, row)
			}
		}
	})
}

// Rule 4: codes know nothing of one another, and each answers the same however often it is asked.
func TestCodesApart(t *testing.T) {
	a, b := code(t, 3, 2), code(t, 5, 4)
	d := dice(1)
	data, more := d.shards(3, 4), d.shards(5, 4)
	for range 3 {
		wantParity(t, a, data, 2)
		wantParity(t, b, more, 4)
		if a.Data() != 3 || b.Data() != 5 || a.Parity() != 2 || b.Parity() != 4 {
			t.Fatal("a code is another")
		}
		if _, e := a.Encode(more); e != api.ErrArg {
			t.Fatalf("shards of another code: error %d", e)
		}
	}
}

// P3.7: what a nil code answers, right arguments and wrong ones.
func TestNil(t *testing.T) {
	var c *rs.Code
	if c.Data() != 0 || c.Parity() != 0 {
		t.Errorf("Data %d, Parity %d", c.Data(), c.Parity())
	}
	for _, i := range []int{-1, 0, 1, math.MaxInt} {
		wantNone(t, "Row", c.Row(i), api.ErrNone, api.ErrNone)
	}
	long := make([]byte, 4097)
	for _, shards := range [][][]byte{nil, {}, {{}}, {{1}}, {{1}, {2}}, {{1}, {2, 3}}, {long}, {long, long}} {
		p, e := c.Encode(shards)
		wantNone(t, "Encode", p, e, api.ErrNone)
		if ok, e := c.Check(shards); ok || e != api.ErrNone {
			t.Errorf("Check: %v, error %d", ok, e)
		}
		for _, have := range [][]bool{nil, {true}, {true, false}, {true, true}} {
			p, e = c.Rebuild(shards, have)
			wantNone(t, "Rebuild", p, e, api.ErrNone)
		}
		for _, at := range []int{-1, 0, 1} {
			p, e = c.Update(shards, at, []byte{1}, []byte{2})
			wantNone(t, "Update", p, e, api.ErrNone)
			b, e := c.Join(shards, at)
			wantNone(t, "Join", b, e, api.ErrNone)
		}
	}
	for _, b := range [][]byte{nil, {}, {1}, make([]byte, 16*4096+1)} {
		p, e := c.Split(b)
		wantNone(t, "Split", p, e, api.ErrNone)
	}
}
