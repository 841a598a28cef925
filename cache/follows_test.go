package cache_test

import (
	"fmt"
	"slices"
	"testing"

	"granary/api"
	"granary/disk"
	"granary/journal"
	"granary/stripe"
)

// last is the last Write of a block that was OK.
type last struct {
	text   string
	change uint64
}

// watch is a shelf that holds what comes home against what was written, and safe by then.
type watch struct {
	*shelf
	t    *testing.T
	last map[int]last
	safe uint64
}

func (d *watch) Write(b int, p []byte) api.Errno {
	x, there := d.last[b]
	if !there || string(p) != padded(x.text) || x.change > d.safe {
		d.t.Errorf("%q is written home to %d; safe up to %d, last written %v", p, b, d.safe, x)
	}
	return d.shelf.Write(b, p)
}

// TestFollows: one truth, ahead of nothing, never more, over drawn scripts with a home that fails (P9.9 to P9.11).
func TestFollows(t *testing.T) {
	dice := dice(7)
	for places := 1; places <= 5; places++ {
		for range 60 {
			const blocks = 7
			d := &watch{shelf: newShelf(blocks), t: t, last: map[int]last{}}
			x := table{t, d.shelf, made(t, d, places)}
			for number := range 300 {
				s := drawn(&dice, blocks, number)
				if s.kind == "Safe" {
					d.safe = max(d.safe, s.change)
				}
				d.until, d.late = s.fails, s.late
				got := really(x.c, s, number)
				d.until = 0
				follows(x, d, s, got, number)
				if n := len(x.c.Held()); n > places {
					t.Errorf("%d blocks in %d places", n, places)
				}
			}
			if t.Failed() {
				t.FailNow()
			}
		}
	}
}

// follows: the answer to the step is what the promises say, and what follows for the next is noted.
func follows(x table, d *watch, s step, got answer, number int) {
	x.t.Helper()
	if got.e != api.OK {
		return
	}
	switch s.kind {
	case "Write":
		d.last[s.n] = last{s.text(number), s.change}
	case "Drop":
		// A dropped block is what home has: that it may have got by any safe change.
		delete(d.last, s.n)
	case "Read":
		truth := d.blocks[s.n]
		if w, there := d.last[s.n]; there {
			truth = padded(w.text)
		}
		if got.data != truth {
			x.t.Errorf("Read(%d): %q, want %q", s.n, got.data, truth)
		}
	case "Flush":
		for b, w := range d.last {
			x.lies(b, w.text)
		}
	}
}

// rig is a cache on a device of stripes, on which a journal lies too: what is changed is appended first.
type rig struct {
	table
	g     api.Geometry
	disks []*disk.Disk
	home  *stripe.Device
	j     *journal.Journal
	// What the data blocks were behind each change, from the one that was the last at the last crash on.
	states [][]string
	first  uint64 // of states
}

const logBlocks = 14

func newRig(t *testing.T) *rig {
	t.Helper()
	x := &rig{table: table{t: t}, g: api.Geometry{K: 2, M: 1, Blocks: logBlocks + 5, Rows: 60}}
	for range x.g.K + x.g.M {
		each, _ := disk.New(x.g.Rows, stripe.ShardBytes(x.g))
		x.disks = append(x.disks, each)
	}
	home, e := stripe.Open(x.g, x.disks)
	if e != api.OK {
		t.Fatalf("stripe: error %d", e)
	}
	if e := journal.Format(home, 0, logBlocks); e != api.OK {
		t.Fatalf("Format: error %d", e)
	}
	var empty []string
	for range x.g.Blocks - logBlocks {
		empty = append(empty, padded(""))
	}
	x.states = [][]string{empty}
	x.open(2)
	return x
}

// open opens device and journal, brings home what the journal holds, and lays an empty cache over them: the data are what a beginning of the changes made.
func (x *rig) open(places int) {
	x.t.Helper()
	var e api.Errno
	var told [][]api.Put
	if x.home, e = stripe.Open(x.g, x.disks); e != api.OK {
		x.t.Fatalf("stripe: error %d", e)
	}
	synced := x.j.Synced()
	if x.j, told, e = journal.Open(x.home, 0, logBlocks); e != api.OK {
		x.t.Fatalf("journal: error %d", e)
	}
	for _, tx := range told {
		for _, put := range tx {
			want(x.t, "redo", x.home.Write(put.Block, put.Data), api.OK)
		}
	}
	want(x.t, "Flush", x.home.Flush(), api.OK)
	want(x.t, "Trim", x.j.Trim(x.j.Last()), api.OK)
	var now []string
	for b := logBlocks; b < x.g.Blocks; b++ {
		p, _ := x.home.Read(b)
		now = append(now, string(p))
	}
	at := x.j.Last()
	if at < synced || at < x.first || at > x.first+uint64(len(x.states)-1) || !slices.Equal(now, x.states[at-x.first]) {
		x.t.Fatalf("behind a crash the data are not what the changes up to %d made", at)
	}
	x.states, x.first = [][]string{now}, at
	x.c = made(x.t, x.home, places)
	x.c.Safe(at)
}

// change appends some writes at one stroke, and makes them in the cache.
func (x *rig) change(dice *dice) {
	x.t.Helper()
	var tx []api.Put
	now := slices.Clone(x.states[len(x.states)-1])
	for i := range 1 + dice.below(2) {
		b := (dice.below(3) + 2*i) % 5
		text := padded(fmt.Sprint("change ", dice.below(1000000)))
		now[b] = text
		tx = append(tx, api.Put{Block: logBlocks + b, Data: []byte(text)})
	}
	lsn, e := x.j.Append(tx)
	if e == api.ErrFull {
		x.trim()
		lsn, e = x.j.Append(tx)
	}
	want(x.t, "Append", e, api.OK)
	x.states = append(x.states, now)
	for _, put := range tx {
		e := x.c.Write(put.Block, put.Data, lsn)
		if e == api.ErrAhead {
			x.sync()
			e = x.c.Write(put.Block, put.Data, lsn)
		}
		want(x.t, "Write", e, api.OK)
	}
}

// sync makes all that was appended safe.
func (x *rig) sync() {
	x.t.Helper()
	want(x.t, "Sync", x.j.Sync(), api.OK)
	x.c.Safe(x.j.Synced())
}

// trim trims what the cache no longer needs: up to Oldest, but for it, behind a Flush of home (P9.7).
func (x *rig) trim() {
	x.t.Helper()
	x.sync()
	x.c.Clean(1)
	want(x.t, "Flush", x.home.Flush(), api.OK)
	upTo, some := x.c.Oldest()
	if !some {
		upTo = x.j.Last() + 1
	}
	if upTo-1 > x.j.Trimmed() {
		want(x.t, "Trim", x.j.Trim(upTo-1), api.OK)
	}
	if x.j.Room() < journal.Need(2) {
		want(x.t, "Flush", x.c.Flush(), api.OK)
		want(x.t, "Trim", x.j.Trim(x.j.Last()), api.OK)
	}
}

// crash leaves any part of what waits on each disk.
func (x *rig) crash(dice *dice) {
	for _, each := range x.disks {
		var keep []int
		for i := range each.Queue() {
			if dice.below(2) == 0 {
				keep = append(keep, i)
			}
		}
		each.Crash(keep)
	}
}

// TestWithJournal: on layer 6's device, with layer 8's journal, behind any crash the data are what a beginning of the changes made, with all that were synced (P9.7, P9.10).
func TestWithJournal(t *testing.T) {
	dice := dice(3)
	for range 10 {
		x := newRig(t)
		for range 20 {
			for range dice.below(12) {
				switch dice.below(8) {
				case 0:
					x.sync()
				case 1:
					x.trim()
				case 2:
					x.c.Clean(1 + dice.below(3))
				case 3:
					x.c.Read(logBlocks + dice.below(5))
				default:
					x.change(&dice)
				}
			}
			x.crash(&dice)
			x.open(2 + dice.below(4))
		}
	}
}
