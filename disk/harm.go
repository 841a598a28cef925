package disk

import "granary/api"

// Fail: P4.5.
func (d *Disk) Fail() {
	if d == nil {
		return
	}
	d.failed = true
	d.queue = nil
}

// Failed: P4.5.
func (d *Disk) Failed() bool { return d != nil && d.failed }

// Replace: P4.5.
func (d *Disk) Replace() {
	if d == nil {
		return
	}
	d.failed = false
	d.queue = nil
	clear(d.sectors)
}

// Lose: P4.6.
func (d *Disk) Lose(at int) api.Errno {
	if why := d.refused(at, true); why != api.OK {
		return why
	}
	d.sectors[at].injury = lost
	return api.OK
}

// Turn: P4.6.
func (d *Disk) Turn(at, bit int, mask uint32) api.Errno {
	mask = d.met(bit, mask)
	if why := d.refused(at, mask != 0); why != api.OK {
		return why
	}
	s := &d.sectors[at]
	for i := range 32 {
		if mask>>i&1 == 1 {
			s.bytes[(bit+i)/8] ^= 1 << ((bit + i) % 8)
		}
	}
	s.injury = turned
	return api.OK
}

// refused is why the sector can not be injured; right says that nothing is wrong with what else was handed in.
func (d *Disk) refused(at int, right bool) api.Errno {
	switch {
	case d == nil:
		return api.ErrNone
	case !d.has(at) || !right:
		return api.ErrArg
	case d.failed:
		return api.ErrFailed
	case d.sectors[at].injury != sound:
		return api.ErrThere
	}
	return api.OK
}

// met is the part of a mask from the bit on that meets bits of a sector: none of it, if there is no such bit.
func (d *Disk) met(bit int, mask uint32) uint32 {
	bits := 8 * d.Size()
	switch {
	case bit < 0 || bit >= bits:
		return 0
	case bits-bit < 32:
		return mask & (1<<(bits-bit) - 1)
	}
	return mask
}

// Injured: P4.6.
func (d *Disk) Injured() []int {
	if d == nil {
		return nil
	}
	var out []int
	for at := range d.sectors {
		if d.sectors[at].injury != sound {
			out = append(out, at)
		}
	}
	return out
}

// Stable: P4.6.
func (d *Disk) Stable(at int) ([]byte, bool) {
	if !d.has(at) {
		return nil, false
	}
	return d.told(&d.sectors[at].bytes), true
}
