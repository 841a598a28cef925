package stripe

import (
	"slices"

	"granary/api"
)

// Read: P6.4.
func (d *Device) Read(b int) ([]byte, api.Errno) {
	switch {
	case d == nil:
		return nil, api.ErrNone
	case !d.has(b):
		return nil, api.ErrArg
	case !d.lies(b):
		return make([]byte, api.BlockBytes), api.OK
	}
	k := d.geometry.K
	shards, have := d.atHand(b)
	// Where all data shards are right they are the first K that are, and there is nothing to work out.
	if slices.Contains(have[:k], false) {
		var e api.Errno
		if shards, e = d.code.Rebuild(shards, have); e != api.OK {
			return nil, api.ErrGone
		}
	}
	return d.code.Join(shards[:k], api.BlockBytes)
}

// Write: P6.5. It is refused too when there is no sequence above the last one: a shard can not have 0, and below the last one it would not be found again.
func (d *Device) Write(b int, p []byte) api.Errno {
	switch {
	case d == nil:
		return api.ErrNone
	case !d.has(b):
		return api.ErrArg
	case len(p) != api.BlockBytes:
		return api.ErrLong
	case d.working() < d.geometry.K:
		return api.ErrFew
	}
	row, ok := d.firstFree()
	if !ok {
		return api.ErrFull
	}
	if d.Sequence() == 0 {
		return api.ErrShard
	}
	shards, e := d.split(p)
	if e != api.OK {
		return e
	}
	d.last++
	d.busy[row] = true
	to := home{row: row, sequence: d.last}
	if _, e := d.lay(b, to, shards, make([]bool, len(shards))); e != api.OK {
		return e
	}
	d.move(b, to)
	return api.OK
}

// split is the data and the parity of a block's content.
func (d *Device) split(p []byte) ([][]byte, api.Errno) {
	data, e := d.code.Split(p)
	if e != api.OK {
		return nil, e
	}
	parity, e := d.code.Encode(data)
	if e != api.OK {
		return nil, e
	}
	return append(data, parity...), api.OK
}

// move lets the block lie elsewhere. What it leaves stays as it is until a Flush: should the power fail, the block is there still.
func (d *Device) move(b int, to home) {
	if d.lies(b) {
		from := d.homes[b].row
		d.lying[from]--
		d.busy[from] = true
	}
	d.homes[b] = to
	d.lying[to.row]++
}

// Flush: P6.6.
func (d *Device) Flush() api.Errno {
	if d == nil {
		return api.ErrNone
	}
	d.flushDisks()
	if d.working() < d.geometry.K {
		return api.ErrFew
	}
	clear(d.busy)
	return api.OK
}

// flushDisks flushes each disk that has not failed; one that has says so, which is nothing new.
func (d *Device) flushDisks() {
	for _, each := range d.disks {
		each.Flush()
	}
}
