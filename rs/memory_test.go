package rs_test

import (
	"bytes"
	"slices"
	"testing"

	"granary/api"
	"granary/rs"
)

// call is one on a code of k 3, m 2 that is handed lists and answers some.
type call struct {
	name  string
	lists [][]byte
	run   func(c *rs.Code, l [][]byte) [][]byte
}

// some is what a call answers, without its error.
func some(l [][]byte, _ api.Errno) [][]byte { return l }

// calls is all of them. Behind the lists that are handed in as one, others lie in its spare room.
func calls() []call {
	five := schoolShards([][]byte{{1, 2}, {3, 4}, {5, 6}}, 2)
	more := append(copies(five), []byte{7, 8}, []byte{9, 10})
	empty := blank(7, 0)
	rebuild := func(lost int) func(c *rs.Code, l [][]byte) [][]byte {
		return func(c *rs.Code, l [][]byte) [][]byte { return some(c.Rebuild(l[:5], unset(5, lost))) }
	}
	encode := func(c *rs.Code, l [][]byte) [][]byte { return some(c.Encode(l[:3])) }
	update := func(c *rs.Code, l [][]byte) [][]byte { return some(c.Update(l[:2], 1, l[4], l[3])) }
	return []call{
		{"Row of data", nil, func(c *rs.Code, l [][]byte) [][]byte { return [][]byte{c.Row(1)} }},
		{"Row of parity", nil, func(c *rs.Code, l [][]byte) [][]byte { return [][]byte{c.Row(4)} }},
		{"Encode", more, encode},
		{"Encode of none", empty, encode},
		{"Encode, uneven", [][]byte{{1}, {2}, {3, 4}, {5}}, encode},
		{"Check", more, func(c *rs.Code, l [][]byte) [][]byte {
			ok, _ := c.Check(l[:5])
			return [][]byte{{map[bool]byte{true: 1}[ok]}}
		}},
		{"Rebuild, nothing lost", more, rebuild(0)},
		{"Rebuild, data lost", more, rebuild(0b00011)},
		{"Rebuild, parity lost", more, rebuild(0b11000)},
		{"Rebuild, both lost", more, rebuild(0b01010)},
		{"Rebuild, one lost", more, rebuild(0b00100)},
		{"Rebuild, too few", more, rebuild(0b00111)},
		{"Rebuild of none", empty, rebuild(0b10100)},
		{"Update", more, update},
		{"Update of none", empty, update},
		{"Update, uneven", [][]byte{{1}, {2}, {3}, {4}, {5, 6}}, update},
		{"Split", [][]byte{{1, 2, 3, 4, 5, 6, 7}}, func(c *rs.Code, l [][]byte) [][]byte { return some(c.Split(l[0])) }},
		{"Split without rest", [][]byte{{1, 2, 3, 4, 5, 6}}, func(c *rs.Code, l [][]byte) [][]byte { return some(c.Split(l[0])) }},
		{"Split of none", [][]byte{{}}, func(c *rs.Code, l [][]byte) [][]byte { return some(c.Split(l[0])) }},
		{"Join", more, func(c *rs.Code, l [][]byte) [][]byte { b, _ := c.Join(l[:3], 5); return [][]byte{b} }},
		{"Join of a shard", more, func(c *rs.Code, l [][]byte) [][]byte { b, _ := c.Join(l[:3], 2); return [][]byte{b} }},
		{"Join, too much", more, func(c *rs.Code, l [][]byte) [][]byte { b, _ := c.Join(l[:3], 7); return [][]byte{b} }},
	}
}

// handed is lists with spare room, and whether they are as they were.
func handed(lists [][]byte) ([][]byte, func() bool) {
	var in [][]byte
	for _, p := range lists {
		in = append(in, roomy(p))
	}
	whole := slices.Clone(in)
	return in, func() bool {
		for i, p := range lists {
			if len(in[i]) != len(p) || &in[i][:1][0] != &whole[i][:1][0] || !isRoomy(whole[i], p) {
				return false
			}
		}
		return true
	}
}

// Rule 3: lists that are handed in are not changed, nor their spare room, and not kept; answers are new each time.
func TestSharesNothing(t *testing.T) {
	c := code(t, 3, 2)
	for _, a := range calls() {
		in, unchanged := handed(a.lists)
		first, second := a.run(c, in), a.run(c, in)
		want := copies(first)
		if !unchanged() || !same(second, want) {
			t.Errorf("%s: a list was changed, or the answer is another the second time", a.name)
		}
		for i, p := range first {
			spoil(p)
			first[i] = nil
			for j := i + 1; j < len(first); j++ {
				if !bytes.Equal(first[j], want[j]) {
					t.Errorf("%s: the answer's lists %d and %d share memory", a.name, i, j)
				}
			}
		}
		if !unchanged() || !same(second, want) {
			t.Errorf("%s: an answer shares memory with a list or another answer", a.name)
		}
		for i, p := range in {
			spoil(p)
			in[i] = nil
		}
		if !same(second, want) {
			t.Errorf("%s: an answer shares memory with a list: %x, want %x", a.name, second, want)
		}
		again, _ := handed(a.lists)
		if third := a.run(c, again); !same(third, want) {
			t.Errorf("%s: what was handed in, or answered, is kept: %x, want %x", a.name, third, want)
		}
	}
}

// Rule 3: flags are a list too.
func TestFlagsUnchanged(t *testing.T) {
	c := code(t, 2, 1)
	whole := []bool{false, true, true, false, true}
	have := slices.Clone(whole)
	shards := [][]byte{nil, {1}, {0x7a}}
	for n := range 5 {
		c.Rebuild(shards, have[:n])
	}
	if !slices.Equal(have, whole) {
		t.Errorf("the flags were changed: %v", have)
	}
	if len(shards[0]) != 0 || shards[1][0] != 1 || shards[2][0] != 0x7a {
		t.Errorf("the shards were changed: %x", shards)
	}
}

// Rule 3: a list that is handed in twice comes back in memory of its own each time.
func TestHandedTwice(t *testing.T) {
	c := code(t, 3, 2)
	p := []byte{5, 6}
	out, e := c.Rebuild([][]byte{p, p, p, p, p}, flags(5, true))
	wantShards(t, "Rebuild", out, e, [][]byte{p, p, p, p, p})
	wantApart(t, out, []byte{5, 6})
	out, e = c.Update([][]byte{p, p}, 2, p, p)
	wantShards(t, "Update", out, e, [][]byte{p, p})
	wantApart(t, out, []byte{5, 6})
	wantParity(t, c, [][]byte{p, p, p}, 2)
	if !bytes.Equal(p, []byte{5, 6}) {
		t.Errorf("the list was changed: %x", p)
	}
}

// wantApart: lists with the same bytes have each its own.
func wantApart(t *testing.T, lists [][]byte, want []byte) {
	t.Helper()
	for i, p := range lists {
		if !bytes.Equal(p, want) {
			t.Errorf("list %d shares memory: %x, want %x", i, p, want)
		}
		spoil(p)
	}
}
