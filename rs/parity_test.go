package rs_test

import (
	"math"
	"testing"

	"granary/api"
	"granary/rs"
)

// wantParity: Encode of the data is as the rule tells it.
func wantParity(t *testing.T, c *rs.Code, data [][]byte, m int) {
	t.Helper()
	p, e := c.Encode(data)
	wantShards(t, "Encode", p, e, schoolShards(data, m)[len(data):])
}

// P3.3: all codes, shards of no bytes, of one and of more.
func TestEncode(t *testing.T) {
	d := dice(3)
	codes(t, func(c *rs.Code, k, m int) {
		for _, n := range []int{0, 1, 2, 7, 33} {
			wantParity(t, c, d.shards(k, n), m)
		}
		wantParity(t, c, blank(k, 5), m)
		for j := range k {
			data := blank(k, 2)
			data[j][1] = 1
			wantParity(t, c, data, m)
		}
	})
}

// P3.3: the document's example.
func TestEncodeExample(t *testing.T) {
	c := code(t, 2, 1)
	p, e := c.Encode([][]byte{{1}, {0}})
	wantShards(t, "01 00", p, e, [][]byte{{0x8e}})
	p, e = c.Encode([][]byte{{1}, {1}})
	wantShards(t, "01 01", p, e, [][]byte{{0x7a}})
}

// P3.3: the longest shards, of the greatest code and of small ones.
func TestEncodeLongest(t *testing.T) {
	d := dice(4)
	for _, s := range [][2]int{{1, 0}, {1, 1}, {2, 1}, {16, 0}, {16, 8}} {
		c := code(t, s[0], s[1])
		wantParity(t, c, d.shards(s[0], 4095), s[1])
		wantParity(t, c, d.shards(s[0], 4096), s[1])
		for _, n := range []int{4097, 4098, 8192} {
			p, e := c.Encode(d.shards(s[0], n))
			wantNone(t, "Encode of long shards", p, e, api.ErrLong)
		}
	}
}

// uneven calls do with count shards of which each in its turn has another length than the others, that of others being none, short, the longest and too long.
func uneven(count int, do func(shards [][]byte)) {
	for at := range count {
		for _, n := range [][2]int{{1, 0}, {1, 2}, {0, 1}, {4096, 4095}, {4096, 4097}, {4097, 4096}, {4097, 0}, {0, 4097}, {4097, 4098}} {
			shards := blank(count, n[0])
			shards[at] = make([]byte, n[1])
			do(shards)
		}
	}
}

// amiss calls do with lists of shards that are not count, some of them too long besides.
func amiss(count int, do func(shards [][]byte)) {
	for _, n := range []int{0, 1, 4096, 4097} {
		for _, other := range []int{0, 1, count - 1, count + 1, 2 * count, count + 30} {
			if other >= 0 && other != count {
				do(blank(other, n))
			}
		}
	}
	if count > 0 {
		do(nil)
	}
}

// P3.3: data that are not k shards, or not of one length, which comes ahead of too long ones.
func TestEncodeWrong(t *testing.T) {
	for _, s := range [][2]int{{1, 0}, {1, 1}, {2, 0}, {2, 1}, {3, 2}, {16, 0}, {16, 8}} {
		c := code(t, s[0], s[1])
		refused := func(data [][]byte) {
			p, e := c.Encode(data)
			wantNone(t, "Encode", p, e, api.ErrArg)
		}
		amiss(s[0], refused)
		if s[0] > 1 {
			uneven(s[0], refused)
		}
	}
}

// wantCheck: what Check says of the shards, without an error.
func wantCheck(t *testing.T, name string, c *rs.Code, shards [][]byte, want bool) {
	t.Helper()
	if ok, e := c.Check(shards); ok != want || e != api.OK {
		t.Fatalf("%s: Check: %v, error %d, want %v", name, ok, e, want)
	}
}

// P3.4: all codes: right shards, and each bit of each shard turned. Without parity all data are right.
func TestCheck(t *testing.T) {
	d := dice(5)
	codes(t, func(c *rs.Code, k, m int) {
		for _, n := range []int{0, 1, 3} {
			shards := schoolShards(d.shards(k, n), m)
			wantCheck(t, "right shards", c, shards, true)
			for i := range shards {
				for bit := range 8 * n {
					shards[i][bit/8] ^= 1 << (bit % 8)
					wantCheck(t, "a bit turned", c, shards, m == 0)
					shards[i][bit/8] ^= 1 << (bit % 8)
				}
			}
		}
		wantCheck(t, "zeros", c, blank(k+m, 9), true)
	})
}

// P3.4: parity shards in another order are others.
func TestCheckOrder(t *testing.T) {
	c := code(t, 2, 2)
	shards := schoolShards([][]byte{{1}, {2}}, 2)
	shards[2], shards[3] = shards[3], shards[2]
	wantCheck(t, "parity exchanged", c, shards, false)
	shards[0], shards[1] = shards[1], shards[0]
	// The rows of this code are 8e f4 and f4 8e: data exchanged have parity exchanged.
	wantCheck(t, "all exchanged", c, shards, true)
}

// P3.4: the longest shards, whose last byte counts.
func TestCheckLongest(t *testing.T) {
	d := dice(6)
	for _, s := range [][2]int{{1, 0}, {1, 1}, {2, 1}, {16, 8}} {
		c := code(t, s[0], s[1])
		shards := schoolShards(d.shards(s[0], 4096), s[1])
		wantCheck(t, "longest", c, shards, true)
		for i := range shards {
			for _, at := range []int{0, 2048, 4095} {
				shards[i][at] ^= 0x80
				wantCheck(t, "a bit turned", c, shards, s[1] == 0)
				shards[i][at] ^= 0x80
			}
		}
		for _, n := range []int{4097, 8192} {
			if ok, e := c.Check(blank(s[0]+s[1], n)); ok || e != api.ErrLong {
				t.Errorf("%d bytes: %v, error %d, want false and ErrLong", n, ok, e)
			}
		}
	}
}

// P3.4: wrong shards; zeros, which are right as far as they go.
func TestCheckWrong(t *testing.T) {
	for _, s := range [][2]int{{1, 0}, {1, 1}, {2, 0}, {2, 1}, {3, 2}, {16, 8}} {
		c := code(t, s[0], s[1])
		refused := func(shards [][]byte) {
			if ok, e := c.Check(shards); ok || e != api.ErrArg {
				t.Errorf("Check of %d shards: %v, error %d, want false and ErrArg", len(shards), ok, e)
			}
		}
		amiss(s[0]+s[1], refused)
		if s[0]+s[1] > 1 {
			uneven(s[0]+s[1], refused)
		}
	}
}

// schoolUpdate is what P3.6 tells of the parity shards, which need not be right ones.
func schoolUpdate(k int, parity [][]byte, at int, was, now []byte) [][]byte {
	out := copies(parity)
	for p := range out {
		for t := range out[p] {
			out[p][t] ^= times[schoolRow(k, k+p)[at]][was[t]^now[t]]
		}
	}
	return out
}

// P3.6: all codes, each data shard, also of parity that is none of the data's.
func TestUpdate(t *testing.T) {
	d := dice(7)
	codes(t, func(c *rs.Code, k, m int) {
		for at := range k {
			for _, n := range []int{0, 1, 5} {
				parity, was, now := d.shards(m, n), d.bytes(n), d.bytes(n)
				p, e := c.Update(parity, at, was, now)
				wantShards(t, "Update", p, e, schoolUpdate(k, parity, at, was, now))
				p, e = c.Update(parity, at, was, was)
				wantShards(t, "Update of no change", p, e, parity)
			}
		}
	})
}

// P3.6: the longest shards, and longer ones.
func TestUpdateLongest(t *testing.T) {
	d := dice(8)
	for _, s := range [][2]int{{1, 0}, {1, 1}, {3, 2}, {16, 8}} {
		c := code(t, s[0], s[1])
		at := s[0] - 1
		parity, was, now := d.shards(s[1], 4096), d.bytes(4096), d.bytes(4096)
		p, e := c.Update(parity, at, was, now)
		wantShards(t, "Update", p, e, schoolUpdate(s[0], parity, at, was, now))
		for _, n := range []int{4097, 9000} {
			p, e := c.Update(blank(s[1], n), at, make([]byte, n), make([]byte, n))
			wantNone(t, "Update of long shards", p, e, api.ErrLong)
		}
	}
}

// P3.6: a place that is none, shards that are too few or too many, lengths that differ: each ahead of too long ones.
func TestUpdateWrong(t *testing.T) {
	for _, s := range [][2]int{{1, 0}, {1, 1}, {2, 1}, {3, 2}, {16, 8}} {
		k, m := s[0], s[1]
		c := code(t, k, m)
		refused := func(parity [][]byte, at int, was, now []byte) {
			p, e := c.Update(parity, at, was, now)
			wantNone(t, "Update", p, e, api.ErrArg)
		}
		for _, n := range []int{0, 1, 4096, 4097} {
			for _, at := range []int{-1, -k, k, k + 1, k + m, 256, 1 << 32, math.MinInt, math.MaxInt} {
				refused(blank(m, n), at, make([]byte, n), make([]byte, n))
			}
		}
		amiss(m, func(parity [][]byte) {
			n := 1
			if len(parity) > 0 {
				n = len(parity[0])
			}
			refused(parity, 0, make([]byte, n), make([]byte, n))
		})
		uneven(m+2, func(shards [][]byte) {
			refused(shards[2:], k-1, shards[0], shards[1])
		})
		if m > 0 {
			refused(blank(m, 2), 0, make([]byte, 3), make([]byte, 3))
			refused(blank(m, 0), 0, []byte{1}, []byte{1})
			refused(blank(m, 1), 0, nil, nil)
		}
	}
}
