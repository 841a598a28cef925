package rs

import "granary/api"

// Split: P3.7.
func (c *Code) Split(p []byte) ([][]byte, api.Errno) {
	if c == nil {
		return nil, api.ErrNone
	}
	n := (len(p) + c.k - 1) / c.k
	if n > api.MaxShard {
		return nil, api.ErrLong
	}
	shards := make([][]byte, c.k)
	for i := range shards {
		shards[i] = make([]byte, n)
		// Of few bytes the last shards may begin behind all of them.
		copy(shards[i], p[min(i*n, len(p)):])
	}
	return shards, api.OK
}

// Join: P3.7.
func (c *Code) Join(data [][]byte, n int) ([]byte, api.Errno) {
	if c == nil {
		return nil, api.ErrNone
	}
	each, ok := oneLength(data, c.k)
	if !ok || n < 0 || n > c.k*each {
		return nil, api.ErrArg
	}
	out := make([]byte, n)
	at := 0
	for _, p := range data {
		at += copy(out[at:], p)
	}
	return out, api.OK
}
