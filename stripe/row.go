package stripe

import "granary/api"

// right is the shard of the row on the disk i, if it is right.
func (d *Device) right(row, i int) (api.Shard, bool) {
	p, e := d.disks[i].Read(row)
	if e != api.OK {
		return api.Shard{}, false
	}
	s, e := GetShard(p)
	g := d.geometry
	if e != api.OK || s.K != g.K || s.M != g.M || s.Index != i || s.Block >= g.Blocks {
		return api.Shard{}, false
	}
	return s, true
}

// rightShards is the right shards of a row, from the disk 0 on.
func (d *Device) rightShards(row int) []api.Shard {
	var out []api.Shard
	for i := range d.disks {
		if s, ok := d.right(row, i); ok {
			out = append(out, s)
		}
	}
	return out
}

// atHand is the data of those shards of a block that lies somewhere which are right and its own, each at its Index, and which they are.
func (d *Device) atHand(b int) ([][]byte, []bool) {
	data, have := make([][]byte, len(d.disks)), make([]bool, len(d.disks))
	h := d.homes[b]
	for i := range d.disks {
		if s, ok := d.right(h.row, i); ok && s.Block == b && s.Sequence == h.sequence {
			data[i], have[i] = s.Data, true
		}
	}
	return data, have
}

// lay writes a block's shards to their row, from the disk 0 on, but for those that it has already, and those whose disk has failed: how many, until the first error.
func (d *Device) lay(b int, to home, shards [][]byte, have []bool) (int, api.Errno) {
	n := 0
	for i, each := range d.disks {
		if have[i] || each.Failed() {
			continue
		}
		p, e := PutShard(api.Shard{Block: b, Sequence: to.sequence, Index: i, K: d.geometry.K, M: d.geometry.M, Data: shards[i]})
		if e == api.OK {
			e = each.Write(to.row, p)
		}
		if e != api.OK {
			return n, e
		}
		n++
	}
	return n, api.OK
}

// free: P6.5.
func (d *Device) free(row int) bool { return d.lying[row] == 0 && !d.busy[row] }

// firstFree is the first row that is free, and whether there is one.
func (d *Device) firstFree() (int, bool) {
	for row := range d.lying {
		if d.free(row) {
			return row, true
		}
	}
	return 0, false
}

// FreeRows: P6.5.
func (d *Device) FreeRows() int {
	if d == nil {
		return 0
	}
	n := 0
	for row := range d.lying {
		if d.free(row) {
			n++
		}
	}
	return n
}
