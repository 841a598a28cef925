package stripe

import (
	"slices"

	"granary/api"
)

// Look: P6.7.
func (d *Device) Look(b int) ([]int, api.Errno) {
	if e := d.nowhere(b); e != api.OK {
		return nil, e
	}
	_, have := d.atHand(b)
	out := make([]int, len(have))
	for i := range have {
		switch {
		case d.disks[i].Failed():
			out[i] = api.ShardFailed
		case have[i]:
			out[i] = api.ShardRight
		default:
			out[i] = api.ShardWrong
		}
	}
	return out, api.OK
}

// nowhere is why the block has no row whose shards could be looked at.
func (d *Device) nowhere(b int) api.Errno {
	switch {
	case d == nil:
		return api.ErrNone
	case !d.has(b):
		return api.ErrArg
	case !d.lies(b):
		return api.ErrNone
	}
	return api.OK
}

// Heal: P6.7.
func (d *Device) Heal(b int) (int, api.Errno) {
	if e := d.nowhere(b); e != api.OK {
		return 0, e
	}
	n, e := d.heal(b)
	if e != api.OK {
		return 0, e
	}
	return n, api.OK
}

// heal is Heal of a block that lies somewhere, but tells beside an error too how many shards were written.
func (d *Device) heal(b int) (int, api.Errno) {
	shards, have := d.atHand(b)
	if !slices.Contains(have, false) {
		return 0, api.OK
	}
	whole, e := d.code.Rebuild(shards, have)
	if e != api.OK {
		return 0, api.ErrGone
	}
	return d.lay(b, d.homes[b], whole, have)
}

// healAll heals each block that lies somewhere, from 0 on: how many shards were written, and the first error.
func (d *Device) healAll() (int, api.Errno) {
	total, first := 0, api.OK
	for b := range d.homes {
		if !d.lies(b) {
			continue
		}
		n, e := d.heal(b)
		total += n
		if first == api.OK {
			first = e
		}
	}
	return total, first
}

// Rebuild: P6.8.
func (d *Device) Rebuild() (int, api.Errno) {
	if d == nil {
		return 0, api.ErrNone
	}
	n, e := d.healAll()
	if flushed := d.Flush(); e == api.OK {
		e = flushed
	}
	return n, e
}

// Lost: P6.8.
func (d *Device) Lost() []int {
	var out []int
	for b := range d.Len() {
		if d.lies(b) && d.tooFew(b) {
			out = append(out, b)
		}
	}
	return out
}

// tooFew: of a block that lies somewhere fewer shards are right than tell it.
func (d *Device) tooFew(b int) bool {
	_, have := d.atHand(b)
	n := 0
	for _, ok := range have {
		if ok {
			n++
		}
	}
	return n < d.geometry.K
}
