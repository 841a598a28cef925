package rs

import (
	"bytes"

	"granary/api"
	"granary/gf"
)

// Encode: P3.3.
func (c *Code) Encode(data [][]byte) ([][]byte, api.Errno) {
	if c == nil {
		return nil, api.ErrNone
	}
	n, e := shardLength(data, c.k)
	if e != api.OK {
		return nil, e
	}
	parity := make([][]byte, c.m)
	for p := range parity {
		parity[p] = sumOf(c.row(c.k+p), data, n)
	}
	return parity, api.OK
}

// Check: P3.4.
func (c *Code) Check(shards [][]byte) (bool, api.Errno) {
	if c == nil {
		return false, api.ErrNone
	}
	n, e := shardLength(shards, c.k+c.m)
	if e != api.OK {
		return false, e
	}
	data := shards[:c.k]
	for i := c.k; i < c.k+c.m; i++ {
		if !bytes.Equal(shards[i], sumOf(c.row(i), data, n)) {
			return false, api.OK
		}
	}
	return true, api.OK
}

// Update: P3.6.
func (c *Code) Update(parity [][]byte, at int, was, now []byte) ([][]byte, api.Errno) {
	if c == nil {
		return nil, api.ErrNone
	}
	if at < 0 || at >= c.k {
		return nil, api.ErrArg
	}
	_, e := shardLength(append([][]byte{was, now}, parity...), 2+c.m)
	if e != api.OK {
		return nil, e
	}
	change, e := gf.Sum(was, now)
	if e != api.OK {
		return nil, e
	}
	out := make([][]byte, c.m)
	for p := range out {
		out[p] = copyOf(parity[p])
		addTimes(out[p], c.row(c.k + p)[at], change)
	}
	return out, api.OK
}

// shardLength is the length of each of the shards; ErrArg, if they are not as many as they should be, or not of one length, ErrLong, if that is above MaxShard.
func shardLength(shards [][]byte, count int) (int, api.Errno) {
	n, ok := oneLength(shards, count)
	if !ok {
		return 0, api.ErrArg
	}
	if n > api.MaxShard {
		return 0, api.ErrLong
	}
	return n, api.OK
}

// oneLength is the length of each of the shards (0 of none), and whether they are as many as they should be, and of one length.
func oneLength(shards [][]byte, count int) (int, bool) {
	if len(shards) != count {
		return 0, false
	}
	if count == 0 {
		return 0, true
	}
	n := len(shards[0])
	for _, p := range shards {
		if len(p) != n {
			return 0, false
		}
	}
	return n, true
}

// sumOf is the sum of the shards of n bytes, each times its coefficient.
func sumOf(row []byte, shards [][]byte, n int) []byte {
	sum := make([]byte, n)
	for j, p := range shards {
		addTimes(sum, row[j], p)
	}
	return sum
}

// addTimes adds c times each byte of p to that of sum, in place; sum is as long as p.
func addTimes(sum []byte, c byte, p []byte) {
	if c == 0 {
		return
	}
	for t, x := range gf.Scale(c, p) {
		sum[t] = gf.Add(sum[t], x)
	}
}
