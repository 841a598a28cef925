package rs_test

import (
	"bytes"
	"math"
	"testing"

	"granary/api"
	"granary/rs"
)

// schoolSplit is what P3.7 tells: the least length that holds all, zeros behind.
func schoolSplit(p []byte, k int) [][]byte {
	n := 0
	for n*k < len(p) {
		n++
	}
	all := append(append([]byte{}, p...), make([]byte, n*k-len(p))...)
	out := make([][]byte, k)
	for i := range out {
		out[i] = all[i*n : (i+1)*n]
	}
	return out
}

// P3.7: Split of few bytes, of all lengths, and Join of the shards.
func TestSplit(t *testing.T) {
	d := dice(15)
	codes(t, func(c *rs.Code, k, m int) {
		for n := range 4*k + 3 {
			p := bytes.ReplaceAll(d.bytes(n), []byte{0}, []byte{1})
			shards, e := c.Split(p)
			wantShards(t, "Split", shards, e, schoolSplit(p, k))
			if b, e := c.Join(shards, n); e != api.OK || !bytes.Equal(b, p) {
				t.Fatalf("k %d: Join: %x, error %d, want %x", k, b, e, p)
			}
		}
		shards, e := c.Split(nil)
		wantShards(t, "Split of none", shards, e, blank(k, 0))
	})
	shards, e := code(t, 2, 1).Split([]byte("abc"))
	wantShards(t, "abc", shards, e, [][]byte{[]byte("ab"), []byte("c\x00")})
}

// P3.7: the most that fits, and one more.
func TestSplitMost(t *testing.T) {
	d := dice(16)
	for k := 1; k <= 16; k++ {
		c := code(t, k, k%9)
		for _, n := range []int{k*4096 - k, k*4096 - k + 1, k*4096 - 1, k * 4096} {
			p := d.bytes(n)
			shards, e := c.Split(p)
			wantShards(t, "Split", shards, e, schoolSplit(p, k))
		}
		for _, n := range []int{k*4096 + 1, k*4096 + k, k*4096 + k + 1, 100000} {
			shards, e := c.Split(make([]byte, n))
			wantNone(t, "Split of more", shards, e, api.ErrLong)
		}
	}
}

// P3.7: Join of all beginnings.
func TestJoin(t *testing.T) {
	d := dice(17)
	codes(t, func(c *rs.Code, k, m int) {
		for _, each := range []int{0, 1, 3} {
			data := d.shards(k, each)
			whole := bytes.Join(data, nil)
			for n := 0; n <= k*each; n++ {
				if b, e := c.Join(data, n); e != api.OK || !bytes.Equal(b, whole[:n]) {
					t.Fatalf("k %d: Join of %x, %d: %x, error %d", k, data, n, b, e)
				}
			}
		}
	})
}

// P3.7: Join of the longest shards.
func TestJoinLongest(t *testing.T) {
	d := dice(18)
	for _, k := range []int{1, 2, 16} {
		data := d.shards(k, 4096)
		whole := bytes.Join(data, nil)
		for _, n := range []int{0, 1, 4095, 4096, k*4096 - 1, k * 4096} {
			if b, e := code(t, k, 1).Join(data, n); e != api.OK || !bytes.Equal(b, whole[:n]) {
				t.Fatalf("k %d: Join of %d bytes: %d, error %d", k, n, len(b), e)
			}
		}
	}
}

// P3.7: Join has no bound of its own for the length: longer shards are joined too.
func TestJoinLonger(t *testing.T) {
	d := dice(19)
	data := d.shards(2, 5000)
	if b, e := code(t, 2, 1).Join(data, 9999); e != api.OK || !bytes.Equal(b, bytes.Join(data, nil)[:9999]) {
		t.Errorf("Join of 9999 bytes: %d, error %d", len(b), e)
	}
}

// P3.7: shards that are not k, or not of one length; n below 0, or above what they hold.
func TestJoinWrong(t *testing.T) {
	for _, k := range []int{1, 2, 3, 16} {
		c := code(t, k, 2)
		refused := func(data [][]byte, n int) {
			b, e := c.Join(data, n)
			wantNone(t, "Join", b, e, api.ErrArg)
		}
		for _, each := range []int{0, 1, 4, 4096, 4097} {
			for _, n := range []int{-1, math.MinInt, k*each + 1, k*each + k, (k + 2) * each, math.MaxInt, 1 << 32} {
				if n != k*each {
					refused(blank(k, each), n)
				}
			}
		}
		for _, n := range []int{-1, 0, 1} {
			amiss(k, func(data [][]byte) { refused(data, n) })
			if k > 1 {
				uneven(k, func(data [][]byte) { refused(data, n) })
			}
		}
	}
}
