package btree

import (
	"bytes"

	"granary/api"
)

// isKey: such bytes can be a key.
func isKey(p []byte) bool { return len(p) >= 1 && len(p) <= api.MaxKey }

// Get: P11.3.
func (b *Batch) Get(key []byte) ([]byte, bool) {
	if b.ended() || !isKey(key) {
		return nil, false
	}
	n, e := leafOf(b.space, b.root, key)
	if e != api.OK {
		b.fail(e)
		return nil, false
	}
	i, is := n.find(key)
	if !is {
		return nil, false
	}
	return bytes.Clone(n.entries[i].value), true
}

// Range: P11.5.
func (b *Batch) Range(from, to []byte, most int) []api.Pair {
	if b.ended() {
		return nil
	}
	var out []api.Pair
	enter := func(at place) bool { return len(out) < most && at.meets(from, to) }
	see := func(entries []entry) {
		for _, x := range entries {
			if len(out) < most && bytes.Compare(x.key, from) >= 0 && ahead(x.key, to) {
				out = append(out, x.pair())
			}
		}
	}
	if e := visit(b.space, top(b.root), enter, see); e != api.OK {
		b.fail(e)
		return nil
	}
	return out
}

// Next: P11.5. No key lies between a key and the same with a byte 0 behind it.
func (b *Batch) Next(key []byte) (api.Pair, bool) {
	behind := append(bytes.Clone(key), 0)
	l := b.Range(behind, nil, 1)
	if len(l) == 0 {
		return api.Pair{}, false
	}
	return l[0], true
}

// Last: P11.5.
func (b *Batch) Last(below []byte) (api.Pair, bool) {
	if b.ended() {
		return api.Pair{}, false
	}
	p, is, e := lastOf(b.space, top(b.root), below)
	if e != api.OK {
		b.fail(e)
	}
	return p, is
}

// Len: P11.5.
func (b *Batch) Len() int {
	if b.ended() {
		return 0
	}
	many := 0
	everywhere := func(place) bool { return true }
	if e := visit(b.space, top(b.root), everywhere, func(l []entry) { many += len(l) }); e != api.OK {
		b.fail(e)
		return 0
	}
	return many
}
