package rs_test

import (
	"bytes"
	"testing"

	"granary/api"
	"granary/rs"
)

// wantRebuilt: what Rebuild answers is what P3.5 tells: shards with have as they were; data that the first k of them come from; the others by these data.
func wantRebuilt(t *testing.T, c *rs.Code, shards [][]byte, have []bool) {
	t.Helper()
	out, e := c.Rebuild(shards, have)
	if e != api.OK || len(out) != len(shards) {
		t.Fatalf("Rebuild with %v: %d shards, error %d", have, len(out), e)
	}
	k, seen := c.Data(), 0
	for i, p := range out {
		if have[i] {
			if !bytes.Equal(p, shards[i]) {
				t.Fatalf("Rebuild with %v: shard %d is %x, was %x", have, i, p, shards[i])
			}
			seen++
		}
		if !have[i] || seen <= k {
			if want := schoolShard(out[:k], i); !bytes.Equal(p, want) {
				t.Fatalf("Rebuild with %v: shard %d is %x, by the data %x", have, i, p, want)
			}
		}
	}
}

// P3.5: shards that are no code's: the first k with have tell the rest, and those behind them have no part.
func TestRebuildByFirst(t *testing.T) {
	d := dice(9)
	codes(t, func(c *rs.Code, k, m int) {
		for lost := 0; lost <= m; lost++ {
			for range 2 {
				wantRebuilt(t, c, d.shards(k+m, d.below(4)), unset(k+m, d.lost(lost, k+m)))
			}
		}
	})
}

// P3.5: the same of small codes, with all sets that are lost.
func TestRebuildByFirstAll(t *testing.T) {
	d := dice(10)
	for k := 1; k <= 4; k++ {
		for m := 0; m <= 4; m++ {
			c := code(t, k, m)
			for lost := range 1 << (k + m) {
				shards, have := d.shards(k+m, 2), unset(k+m, lost)
				if ones(lost) <= m {
					wantRebuilt(t, c, shards, have)
				} else {
					p, e := c.Rebuild(shards, have)
					wantNone(t, "too few", p, e, api.ErrFew)
				}
			}
		}
	}
}

// ones is how many bits are set.
func ones(bits int) int {
	n := 0
	for ; bits > 0; bits &= bits - 1 {
		n++
	}
	return n
}

// P3.5: what a shard without have holds has no part, whatever its length.
func TestRebuildWithout(t *testing.T) {
	d := dice(11)
	for _, s := range [][2]int{{1, 1}, {2, 1}, {3, 3}, {16, 8}} {
		k, m := s[0], s[1]
		c := code(t, k, m)
		whole := schoolShards(d.shards(k, 6), m)
		for range 20 {
			lost := d.lost(m, k+m)
			shards, have := copies(whole), unset(k+m, lost)
			for _, n := range []int{-1, 0, 1, 5, 6, 7, 4096, 4097, 10000} {
				for i := range shards {
					if !have[i] {
						shards[i] = nil
						if n >= 0 {
							shards[i] = d.bytes(n)
						}
					}
				}
				p, e := c.Rebuild(shards, have)
				wantShards(t, "lost ones hold anything", p, e, whole)
			}
		}
	}
}

// P3.5: with all of them there is nothing to do, be they right or not.
func TestRebuildNothing(t *testing.T) {
	d := dice(12)
	codes(t, func(c *rs.Code, k, m int) {
		for _, n := range []int{0, 1, 4} {
			shards := d.shards(k+m, n)
			p, e := c.Rebuild(shards, flags(k+m, true))
			wantShards(t, "all at hand", p, e, shards)
		}
	})
}

// P3.5: exactly k, and one fewer; the longest shards and those of no bytes, which may be nil.
func TestRebuildFew(t *testing.T) {
	d := dice(13)
	codes(t, func(c *rs.Code, k, m int) {
		whole := schoolShards(d.shards(k, 3), m)
		lost := d.lost(m, k+m)
		p, e := c.Rebuild(whole, unset(k+m, lost))
		wantShards(t, "just k", p, e, whole)
		p, e = c.Rebuild(make([][]byte, k+m), unset(k+m, lost))
		wantShards(t, "just k of no bytes", p, e, blank(k+m, 0))
		p, e = c.Rebuild(make([][]byte, k+m), flags(k+m, true))
		wantShards(t, "all of no bytes", p, e, blank(k+m, 0))
		p, e = c.Rebuild(whole, unset(k+m, d.lost(m+1, k+m)))
		wantNone(t, "one fewer", p, e, api.ErrFew)
		p, e = c.Rebuild(blank(k+m, 0), unset(k+m, d.lost(m+1, k+m)))
		wantNone(t, "one fewer, no bytes", p, e, api.ErrFew)
		p, e = c.Rebuild(whole, flags(k+m, false))
		wantNone(t, "none", p, e, api.ErrFew)
		p, e = c.Rebuild(blank(k+m, 5000), flags(k+m, false))
		wantNone(t, "none, long", p, e, api.ErrFew)
	})
}

// P3.5: the longest shards; longer ones, whatever is lost, ahead of too few.
func TestRebuildLongest(t *testing.T) {
	d := dice(14)
	for _, s := range [][2]int{{1, 0}, {1, 1}, {3, 2}, {16, 8}} {
		k, m := s[0], s[1]
		c := code(t, k, m)
		whole := schoolShards(d.shards(k, 4096), m)
		p, e := c.Rebuild(whole, unset(k+m, d.lost(m, k+m)))
		wantShards(t, "longest", p, e, whole)
		for lost := range k + m {
			p, e := c.Rebuild(blank(k+m, 4097), unset(k+m, d.lost(lost, k+m)))
			wantNone(t, "long", p, e, api.ErrLong)
		}
	}
}

// P3.5: not k + m shards, or not as many flags: ahead of too long and too few.
func TestRebuildWrongNumbers(t *testing.T) {
	for _, s := range [][2]int{{1, 0}, {1, 1}, {2, 1}, {3, 2}, {16, 8}} {
		all := s[0] + s[1]
		c := code(t, s[0], s[1])
		refused := func(shards [][]byte, have []bool) {
			p, e := c.Rebuild(shards, have)
			wantNone(t, "Rebuild", p, e, api.ErrArg)
		}
		amiss(all, func(shards [][]byte) {
			for _, flag := range []bool{true, false} {
				refused(shards, flags(all, flag))
				refused(shards, flags(len(shards), flag))
			}
		})
		for _, n := range []int{1, 4097} {
			for _, other := range []int{0, 1, s[0], all - 1, all + 1, 2 * all} {
				if other != all {
					refused(blank(all, n), flags(other, true))
					refused(blank(all, n), flags(other, false))
				}
			}
			refused(blank(all, n), nil)
		}
	}
}

// P3.5: shards with have of several lengths: ahead of too long and too few.
func TestRebuildWrongLengths(t *testing.T) {
	for _, s := range [][2]int{{2, 0}, {1, 1}, {2, 1}, {3, 2}, {16, 8}} {
		all := s[0] + s[1]
		c := code(t, s[0], s[1])
		uneven(all, func(shards [][]byte) {
			p, e := c.Rebuild(shards, flags(all, true))
			wantNone(t, "all at hand", p, e, api.ErrArg)
			two := flags(all, false)
			for i := range all {
				if len(shards[i]) != len(shards[(i+1)%all]) {
					two[i], two[(i+1)%all] = true, true
					break
				}
			}
			p, e = c.Rebuild(shards, two)
			wantNone(t, "two at hand", p, e, api.ErrArg)
		})
	}
}

// P3.5: the document's example.
func TestRebuildExample(t *testing.T) {
	c := code(t, 2, 1)
	p, e := c.Rebuild([][]byte{nil, {1}, {0x7a}}, []bool{false, true, true})
	wantShards(t, "the first lost", p, e, [][]byte{{1}, {1}, {0x7a}})
	p, e = c.Rebuild([][]byte{nil, nil, {0x7a}}, []bool{false, false, true})
	wantNone(t, "two lost", p, e, api.ErrFew)
}
