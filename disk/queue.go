package disk

import "granary/api"

// Write: P4.2.
func (d *Disk) Write(at int, data []byte) api.Errno {
	switch {
	case d == nil:
		return api.ErrNone
	case !d.has(at):
		return api.ErrArg
	case len(data) != d.size:
		return api.ErrSize
	case d.failed:
		return api.ErrFailed
	case len(d.queue) >= api.MaxQueue:
		return api.ErrMany
	}
	w := write{at: at}
	copy(w.bytes[:], data)
	d.queue = append(d.queue, w)
	return api.OK
}

// Read: P4.2.
func (d *Disk) Read(at int) ([]byte, api.Errno) {
	switch {
	case d == nil:
		return nil, api.ErrNone
	case !d.has(at):
		return nil, api.ErrArg
	case d.failed:
		return nil, api.ErrFailed
	}
	// What waits comes ahead of an injury, which touches what is stable alone.
	if c := d.waiting(at); c != nil {
		return d.told(c), api.OK
	}
	s := &d.sectors[at]
	if s.injury == lost {
		return nil, api.ErrLost
	}
	return d.told(&s.bytes), api.OK
}

// waiting is the content of the last write of the sector that waits, nil if none does.
func (d *Disk) waiting(at int) *content {
	for i := len(d.queue) - 1; i >= 0; i-- {
		if w := &d.queue[i]; w.at == at {
			return &w.bytes
		}
	}
	return nil
}

// Flush: P4.3.
func (d *Disk) Flush() api.Errno {
	switch {
	case d == nil:
		return api.ErrNone
	case d.failed:
		return api.ErrFailed
	}
	for i := range d.queue {
		d.settle(&d.queue[i])
	}
	d.queue = nil
	return api.OK
}

// settle makes a write stable: the sector is a new one, without the injury that the old one had.
func (d *Disk) settle(w *write) {
	d.sectors[w.at] = sector{bytes: w.bytes}
	d.writes++
}

// Queue: P4.3.
func (d *Disk) Queue() []api.Sector {
	if d == nil {
		return nil
	}
	out := make([]api.Sector, len(d.queue))
	for i := range d.queue {
		w := &d.queue[i]
		out[i] = api.Sector{At: w.at, Data: string(w.bytes[:d.size])}
	}
	return out
}

// Crash: P4.4.
func (d *Disk) Crash(keep []int) {
	if d == nil {
		return
	}
	kept := make([]bool, len(d.queue))
	for _, i := range keep {
		if i >= 0 && i < len(kept) {
			kept[i] = true
		}
	}
	for i := range d.queue {
		if kept[i] {
			d.settle(&d.queue[i])
		}
	}
	d.queue = nil
}
