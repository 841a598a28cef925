package rs_test

import (
	"testing"

	"granary/rs"
)

// small calls do with all codes that have few shards in all.
func small(t *testing.T, most int, do func(c *rs.Code, k, m int)) {
	t.Helper()
	codes(t, func(c *rs.Code, k, m int) {
		if k+m <= most {
			do(c, k, m)
		}
	})
}

// great is codes of the greatest sides.
func great() [][2]int { return [][2]int{{16, 8}, {16, 7}, {15, 8}, {16, 1}, {1, 8}, {8, 8}} }

// encoded is the data with their parity behind.
func encoded(t *testing.T, c *rs.Code, data [][]byte) [][]byte {
	t.Helper()
	p, e := c.Encode(data)
	if e != 0 || len(p) != c.Parity() {
		t.Fatalf("Encode: %d shards, error %d", len(p), e)
	}
	return append(copies(data), p...)
}

// wantBack: what is lost comes back, with other bytes where it was.
func wantBack(t *testing.T, c *rs.Code, whole [][]byte, lost int) {
	t.Helper()
	shards := copies(whole)
	have := unset(len(whole), lost)
	for i := range shards {
		if !have[i] {
			spoil(shards[i])
		}
	}
	out, e := c.Rebuild(shards, have)
	wantShards(t, "what was lost", out, e, whole)
}

// P3.8: small codes, every set that may be lost.
func TestAnyK(t *testing.T) {
	d := dice(20)
	small(t, 13, func(c *rs.Code, k, m int) {
		whole := encoded(t, c, d.shards(k, 3))
		for lost := range 1 << (k + m) {
			if ones(lost) <= m {
				wantBack(t, c, whole, lost)
			}
		}
	})
}

// P3.8: great codes, drawn sets.
func TestAnyKGreat(t *testing.T) {
	d := dice(21)
	for _, s := range great() {
		c := code(t, s[0], s[1])
		for range 150 {
			wantBack(t, c, encoded(t, c, d.shards(s[0], d.below(5))), d.lost(s[1], s[0]+s[1]))
		}
		whole := encoded(t, c, d.shards(s[0], 4))
		wantBack(t, c, whole, 1<<s[1]-1)
		wantBack(t, c, whole, (1<<s[1]-1)<<s[0])
		wantBack(t, c, encoded(t, c, d.shards(s[0], 4096)), d.lost(s[1], s[0]+s[1]))
	}
}

// P3.8: bytes that are split, lose shards, and are joined again.
func TestAnyKOfBytes(t *testing.T) {
	d := dice(22)
	codes(t, func(c *rs.Code, k, m int) {
		p := d.bytes(1 + d.below(100))
		data, _ := c.Split(p)
		out, _ := c.Rebuild(encoded(t, c, data), unset(k+m, d.lost(m, k+m)))
		if b, e := c.Join(out[:k], len(p)); e != 0 || string(b) != string(p) {
			t.Fatalf("k %d, m %d: %x, error %d, want %x", k, m, b, e, p)
		}
	})
}

// P3.9: one change behind the other, of all codes.
func TestChange(t *testing.T) {
	d := dice(23)
	codes(t, func(c *rs.Code, k, m int) {
		data := d.shards(k, 4)
		parity := encoded(t, c, data)[k:]
		for range 5 {
			at, now := d.below(k), d.bytes(4)
			p, e := c.Update(parity, at, data[at], now)
			data[at] = now
			wantShards(t, "changed", p, e, encoded(t, c, data)[k:])
			parity = p
		}
	})
}

// P3.10: small codes, every set of up to m shards, turned into any other bytes.
func TestTold(t *testing.T) {
	d := dice(24)
	small(t, 12, func(c *rs.Code, k, m int) {
		whole := encoded(t, c, d.shards(k, 3))
		wantCheck(t, "whole", c, whole, true)
		for turned := 1; turned < 1<<(k+m); turned++ {
			if ones(turned) <= m {
				wantCheck(t, "turned", c, d.turn(whole, turned), false)
			}
		}
	})
}

// turn is the lists, of which those of the bits of which have another byte.
func (d *dice) turn(lists [][]byte, which int) [][]byte {
	out := copies(lists)
	for i, p := range out {
		if which>>i&1 == 1 {
			p[d.below(len(p))] ^= byte(1 + d.below(255))
		}
	}
	return out
}

// P3.10: great codes, drawn sets.
func TestToldGreat(t *testing.T) {
	d := dice(25)
	for _, s := range great() {
		c := code(t, s[0], s[1])
		for range 100 {
			whole := encoded(t, c, d.shards(s[0], 1+d.below(3)))
			wantCheck(t, "turned", c, d.turn(whole, d.lost(1+d.below(s[1]), s[0]+s[1])), false)
		}
	}
}

// P3.10: shards of which m are turned so that all but one row of parity agree: a right change of m + 1 shards, of which one is left out.
func TestToldNearly(t *testing.T) {
	d := dice(26)
	codes(t, func(c *rs.Code, k, m int) {
		zeros := d.lost(k-1, k+m)
		change := thin(t, c, zeros)
		whole := encoded(t, c, d.shards(k, 1))
		for out := range k + m {
			if zeros>>out&1 == 1 {
				continue
			}
			shards := copies(whole)
			for i := range shards {
				if i != out {
					shards[i][0] ^= change[i][0]
				}
			}
			wantCheck(t, "one left out", c, shards, m == 0)
			shards[out][0] ^= change[out][0]
			wantCheck(t, "all changed", c, shards, true)
		}
	})
}

// thin is shards of a byte that are right, and 0 at just the k - 1 given numbers.
func thin(t *testing.T, c *rs.Code, zeros int) [][]byte {
	t.Helper()
	all := c.Data() + c.Parity()
	have, one := unset(all, ^zeros), 0
	for have[one] {
		one++
	}
	have[one] = true
	shards := blank(all, 1)
	shards[one][0] = 1
	out, e := c.Rebuild(shards, have)
	if e != 0 {
		t.Fatalf("Rebuild: error %d", e)
	}
	for i, p := range out {
		if (p[0] == 0) != (zeros>>i&1 == 1) {
			t.Fatalf("%x, zeros %b", out, zeros)
		}
	}
	return out
}

// P3.11: the parity of a sum, of all codes.
func TestSums(t *testing.T) {
	d := dice(27)
	codes(t, func(c *rs.Code, k, m int) {
		a, b := encoded(t, c, d.shards(k, 5)), encoded(t, c, d.shards(k, 5))
		sum := blank(k+m, 5)
		for i := range sum {
			for j := range sum[i] {
				sum[i][j] = a[i][j] ^ b[i][j]
			}
		}
		p, e := c.Encode(sum[:k])
		wantShards(t, "the sum", p, e, sum[k:])
	})
}
