package journal

import "granary/api"

// supers is how many superblocks lie ahead of the ring.
const supers = 2

// Format: P8.4.
func Format(d api.Blocks, first, count int) api.Errno {
	if e := fits(d, first, count); e != api.OK {
		return e
	}
	for b := first + supers; b < first+count; b++ {
		if e := d.Write(b, make([]byte, api.BlockBytes)); e != api.OK {
			return e
		}
	}
	if e := d.Flush(); e != api.OK {
		return e
	}
	j := &Journal{device: d, first: first, ring: count - supers}
	for g := range uint64(supers) {
		if e := j.writeSuper(api.LogSuper{Generation: g + 1, Boot: 1}); e != api.OK {
			return e
		}
	}
	return d.Flush()
}

// fits: such a journal lies within the device.
func fits(d api.Blocks, first, count int) api.Errno {
	if d == nil {
		return api.ErrNone
	}
	if size := d.Len(); count < api.MinLog || first < 0 || first > size || count > size-first {
		return api.ErrArg
	}
	return api.OK
}

// Open: P8.5.
func Open(d api.Blocks, first, count int) (*Journal, [][]api.Put, api.Errno) {
	if e := fits(d, first, count); e != api.OK {
		return nil, nil, e
	}
	j := &Journal{device: d, first: first, ring: count - supers}
	if e := j.findSuper(); e != api.OK {
		return nil, nil, e
	}
	told, e := j.readAll()
	if e != api.OK {
		return nil, nil, e
	}
	if e := j.begin(); e != api.OK {
		return nil, nil, e
	}
	return j, told, api.OK
}

// findSuper takes up the superblock with the greatest Generation, of like ones the first.
func (j *Journal) findSuper() api.Errno {
	for i := range supers {
		b, e := j.device.Read(j.first + i)
		if e != api.OK {
			return e
		}
		if x, e := GetSuper(b); e == api.OK && x.Generation > j.super.Generation {
			j.super = x
		}
	}
	if j.super.Generation == 0 {
		return api.ErrLog
	}
	return api.OK
}

// readAll takes up the transactions that are there, and tells them.
func (j *Journal) readAll() ([][]api.Put, api.Errno) {
	var told [][]api.Put
	for {
		tx, e := j.readTx()
		if e != api.OK {
			return nil, e
		}
		if tx == nil {
			return told, api.OK
		}
		told = append(told, tx)
	}
}

// readTx takes up the next transaction, and tells it; none, if it is not there. No block is read any more when that is known.
func (j *Journal) readTx() ([]api.Put, api.Errno) {
	head, e := j.readEntry(j.end())
	if e != api.OK || !j.follows(head) {
		return nil, e
	}
	p := head.Bytes
	for part := 1; part < head.Parts; part++ {
		x, e := j.readEntry(j.end() + uint64(part))
		if e != api.OK || !goesOn(head, x, part) {
			return nil, e
		}
		p = append(p, x.Bytes...)
	}
	tx, e := GetTx(p)
	if e != api.OK {
		return nil, api.OK
	}
	j.live = append(j.live, mark{end: j.end() + uint64(head.Parts), boot: head.Boot, serial: head.Serial})
	return tx, api.OK
}

// readEntry is the entry in the block of a Position; the zero LogEntry, if there is none.
func (j *Journal) readEntry(position uint64) (api.LogEntry, api.Errno) {
	b, e := j.device.Read(j.blockOf(position))
	if e != api.OK {
		return api.LogEntry{}, e
	}
	x, _ := GetEntry(b)
	return x, api.OK
}

// follows: with this entry the next transaction begins. One that was left over from an earlier time has a lesser Boot or Serial, or another Position.
func (j *Journal) follows(x api.LogEntry) bool {
	ahead := j.lastMark()
	later := x.Boot > ahead.boot || x.Boot == ahead.boot && x.Serial > ahead.serial
	return x.Position == j.end() && x.Lsn == j.Last()+1 && later && x.Boot <= j.super.Boot &&
		x.Part == 0 && x.Parts <= j.Room()
}

// goesOn: the entry is that part of the transaction that begins with head.
func goesOn(head, x api.LogEntry, part int) bool {
	return x.Position == head.Position+uint64(part) && x.Part == part && x.Parts == head.Parts &&
		x.Boot == head.Boot && x.Serial == head.Serial && x.Lsn == head.Lsn
}

// begin makes the next Boot the journal's. All that was read is flushed with it.
func (j *Journal) begin() api.Errno {
	next := j.super
	next.Generation++
	next.Boot++
	if !within(next.Generation, next.Boot) {
		return api.ErrFull
	}
	if e := j.settle(next); e != api.OK {
		return e
	}
	j.super = next
	return api.OK
}
