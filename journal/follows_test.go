package journal_test

import (
	"slices"
	"testing"

	"granary/api"
	"granary/disk"
	"granary/journal"
	"granary/stripe"
)

// ground is a device under a journal, whose power may fail, at once or within a call.
type ground interface {
	api.Blocks
	crash(dice *dice)
	mend()
	heard() ([]call, int)
	breakAt(at int, dead, late bool)
}

// breakAt lets the call of that number from now on fail, and all behind it, if it is dead.
func (f *fault) breakAt(at int, dead, late bool) { f.until, f.dead, f.late = at, dead, late }

// rack is layer 6's device on its disks.
type rack struct {
	fault
	t     *testing.T
	g     api.Geometry
	disks []*disk.Disk
	*stripe.Device
}

func newRack(t *testing.T, g api.Geometry) *rack {
	t.Helper()
	r := &rack{t: t, g: g}
	for range g.K + g.M {
		d, e := disk.New(g.Rows, stripe.ShardBytes(g))
		want(t, "disk.New", e, api.OK)
		r.disks = append(r.disks, d)
	}
	r.open()
	return r
}

func (r *rack) open() {
	r.t.Helper()
	d, e := stripe.Open(r.g, r.disks)
	if e != api.OK {
		r.t.Fatalf("stripe.Open: error %d", e)
	}
	r.Device = d
}

func (r *rack) Read(b int) ([]byte, api.Errno) {
	if failed, _ := r.fails(call{'r', b, ""}); failed {
		return nil, errBroken
	}
	return r.Device.Read(b)
}

func (r *rack) Write(b int, p []byte) api.Errno {
	return r.do(call{'w', b, string(p)}, func() api.Errno { return r.Device.Write(b, p) })
}

func (r *rack) Flush() api.Errno { return r.do(call{'f', 0, ""}, r.Device.Flush) }

// crash leaves of each disk's queue any part; and up to M disks may be replaced besides.
func (r *rack) crash(dice *dice) {
	r.t.Helper()
	for _, d := range r.disks {
		d.Crash(dice.part(len(d.Queue())))
	}
	if dice.below(4) == 0 {
		for range r.g.M {
			r.disks[dice.below(len(r.disks))].Replace()
		}
	}
	r.mend()
	r.open()
}

// ledger is a journal, and what must be found behind a crash.
type ledger struct {
	t      *testing.T
	d      ground
	count  int
	j      *journal.Journal
	was    [][]api.Put // by their Lsn, from 1 on: the last one that Append answered OK for
	trims  []uint64    // what may be trimmed behind a crash
	synced int
	under  []api.Put // an Append under way all of whose writes were done
	seed   int
	found  int
}

func newLedger(t *testing.T, d ground, count int) *ledger {
	t.Helper()
	l := &ledger{t: t, d: d, count: count, trims: []uint64{0}}
	want(t, "Format", journal.Format(d, 1, count), api.OK)
	l.open()
	return l
}

// open opens the journal, and takes it up.
func (l *ledger) open() {
	l.t.Helper()
	j, told := opened(l.t, l.d, 1, l.count)
	l.take(j, told)
}

// take looks at all that an Open has told, and goes on from there (P8.9, P8.10).
func (l *ledger) take(j *journal.Journal, told [][]api.Put) {
	l.t.Helper()
	if !slices.Contains(l.trims, j.Trimmed()) {
		l.t.Fatalf("up to %d it is trimmed, and it could be %v", j.Trimmed(), l.trims)
	}
	trimmed := int(j.Trimmed())
	last := trimmed + len(told)
	if l.under != nil && last == len(l.was)+1 {
		l.was = append(l.was, l.under)
	}
	if last < l.synced || last > len(l.was) || j.Last() != uint64(last) || j.Synced() != uint64(last) {
		l.t.Fatalf("%d to %d are there, Last %d; synced were %d, appended %d", trimmed+1, last, j.Last(), l.synced, len(l.was))
	}
	for i, tx := range told {
		if !sameTx(tx, l.was[trimmed+i]) {
			l.t.Fatalf("%d is another", trimmed+i+1)
		}
	}
	l.found += last - l.synced
	l.j, l.was, l.synced, l.under = j, l.was[:last], last, nil
	l.trims = []uint64{j.Trimmed()}
}

// room is P8.11.
func (l *ledger) room() int {
	out := l.count - 2
	for _, tx := range l.was[l.j.Trimmed():] {
		out -= journal.Need(len(tx))
	}
	return out
}

// append appends, and tells whether the device failed within it.
func (l *ledger) append(n int) bool {
	l.t.Helper()
	l.seed++
	tx := puts(n, l.seed)
	room := l.room()
	l.d.heard()
	lsn, e := l.j.Append(tx)
	calls, _ := l.d.heard()
	switch {
	case e == api.OK && lsn == uint64(len(l.was)+1) && journal.Need(n) <= room:
		l.was = append(l.was, tx)
	case e == api.ErrFull && len(calls) == 0 && journal.Need(n) > room:
	case e != api.OK && lsn == 0 && len(calls) > 0:
		if len(calls) == journal.Need(n) {
			l.under = tx
		}
		return true
	default:
		l.t.Fatalf("Append of %d puts into %d blocks behind %d: %d, error %d", n, room, len(l.was), lsn, e)
	}
	return false
}

// sync syncs, likewise.
func (l *ledger) sync() bool {
	l.t.Helper()
	if l.j.Sync() != api.OK {
		return true
	}
	l.synced = len(l.was)
	return false
}

// trim trims up to something that may be trimmed, likewise.
func (l *ledger) trim(dice *dice) bool {
	l.t.Helper()
	trimmed := l.j.Trimmed()
	lsn := trimmed + uint64(dice.below(l.synced-int(trimmed)+1))
	if e := l.j.Trim(lsn); e != api.OK {
		l.trims = append(l.trims, lsn)
		return true
	}
	if lsn != trimmed {
		l.trims, l.synced = []uint64{lsn}, len(l.was)
	}
	return false
}

// step does something drawn, and tells whether the device failed within it.
func (l *ledger) step(dice *dice) bool {
	l.t.Helper()
	switch n := dice.below(10); {
	case n < 6:
		return l.append(1 + dice.below(4))
	case n < 7:
		return l.sync()
	case n < 9:
		return l.trim(dice)
	}
	return l.anew()
}

// anew opens the journal without a crash: all that was appended is there. One that failed may have written: the journal that was open may not go on.
func (l *ledger) anew() bool {
	l.t.Helper()
	all := len(l.was)
	j, told, e := journal.Open(l.d, 1, l.count)
	if e != api.OK {
		l.j = nil
		return true
	}
	l.take(j, told)
	if len(l.was) != all {
		l.t.Fatalf("without a crash %d are there, of %d", len(l.was), all)
	}
	return false
}

// run does steps, with crashes between and within them, and calls that fail without one.
func (l *ledger) run(dice *dice, steps int) {
	l.t.Helper()
	for range steps {
		within := dice.below(6)
		switch {
		case within == 0:
			l.d.breakAt(1+dice.below(8), true, dice.below(2) == 0)
			for !l.step(dice) {
			}
			l.d.crash(dice)
			l.open()
			continue
		case within == 1:
			l.d.breakAt(1+dice.below(3), false, false)
		}
		l.step(dice)
		l.under = nil
		l.d.mend()
		if l.j == nil && l.anew() {
			// Layer 6's device has no row free.
			want(l.t, "Flush", l.d.Flush(), api.OK)
			l.anew()
		}
		if dice.below(8) == 0 {
			l.d.crash(dice)
			l.open()
		}
		if l.j.Room() != l.room() || l.j.Last() != uint64(len(l.was)) || l.j.Synced() != uint64(l.synced) {
			l.t.Fatalf("Room %d, Last %d, Synced %d, want %d, %d, %d", l.j.Room(), l.j.Last(), l.j.Synced(), l.room(), len(l.was), l.synced)
		}
	}
}

// TestDrawnCrashes: behind whatever crash, between calls and within them, a beginning is there, with all that was synced, and stays there until it is trimmed (P8.9 to P8.11).
func TestDrawnCrashes(t *testing.T) {
	dice := dice(11)
	found, all := 0, 0
	for _, count := range []int{6, 7, 8, 10, 12, 17, 30} {
		for range 30 {
			l := newLedger(t, newPlate(count+2), count)
			l.run(&dice, 200)
			found, all = found+l.found, all+l.seed
		}
	}
	if found < 500 {
		t.Errorf("of %d transactions only %d that were not synced were there", all, found)
	}
}

// TestDrawnStripes: so it is on layer 6's device, whose disks crash each by itself, and are replaced (P8.9 to P8.11).
func TestDrawnStripes(t *testing.T) {
	dice := dice(12)
	for _, g := range []api.Geometry{{K: 1, M: 0}, {K: 1, M: 1}, {K: 2, M: 1}, {K: 2, M: 2}, {K: 4, M: 4}} {
		for _, size := range [][2]int{{6, 40}, {8, 100}, {12, 16}, {20, 200}} {
			g.Blocks, g.Rows = size[0]+2, size[1]
			l := newLedger(t, newRack(t, g), size[0])
			l.run(&dice, 120)
		}
	}
}

// TestEveryCrash: some appends behind a Format, each crash that there can be, appends again, each crash again: a beginning is there, of the transactions that were appended last (P8.9, P8.10).
func TestEveryCrash(t *testing.T) {
	for _, c := range []struct{ before, after []int }{
		{[]int{1, 1, 1}, []int{1, 1, 1}},
		{[]int{1, 1, 1}, []int{2, 1}},
		{[]int{2, 2}, []int{1, 1, 1}},
		{[]int{1, 2}, []int{2, 2}},
		{[]int{3}, []int{1, 2}},
	} {
		d := formatted(t, 8, 0, 8)
		j, _ := opened(t, d, 0, 8)
		var first, second [][]api.Put
		for i, n := range c.before {
			appends(t, j, puts(n, i+1), uint64(i+1))
			first = append(first, puts(n, i+1))
		}
		for i, n := range c.after {
			second = append(second, puts(n, i+10))
		}
		seen := make([]int, 4)
		d.crashes(func(d *plate) {
			j, told := opened(t, d, 0, 8)
			seen[len(told)]++
			if !sameTxs(told, first[:len(told)]) {
				t.Fatalf("%v: %d other transactions", c, len(told))
			}
			all := slices.Clone(told)
			for _, tx := range second {
				if journal.Need(len(tx)) <= j.Room() {
					appends(t, j, tx, uint64(len(all)+1))
					all = append(all, tx)
				}
			}
			d.crashes(func(d *plate) {
				_, again := opened(t, d, 0, 8)
				if len(again) < len(told) || len(again) > len(all) || !sameTxs(again, all[:len(again)]) {
					t.Fatalf("%v: behind %d transactions there are %d", c, len(told), len(again))
				}
			})
		})
		for n := range len(first) + 1 {
			if seen[n] == 0 {
				t.Errorf("%v: no crash leaves %d transactions", c, n)
			}
		}
	}
}

// TestEveryCrashOfATrim: within a Trim, and where the ring goes round behind it, each crash leaves those behind what was trimmed, or was about to be (P8.7, P8.9).
func TestEveryCrashOfATrim(t *testing.T) {
	for at := 0; at <= 2; at++ {
		for lsn := uint64(1); lsn <= 3; lsn++ {
			d := formatted(t, 8, 0, 8)
			j, _ := opened(t, d, 0, 8)
			var all [][]api.Put
			for i := range 3 {
				all = append(all, puts(1, i+1))
				appends(t, j, all[i], uint64(i+1))
			}
			want(t, "Sync", j.Sync(), api.OK)
			d.until = at
			if e := j.Trim(lsn); (e == api.OK) != (at == 0) {
				t.Fatalf("Trim: error %d", e)
			}
			d.until = 0
			for j.Room() > 1 {
				all = append(all, puts(1, len(all)+1))
				appends(t, j, all[len(all)-1], uint64(len(all)))
			}
			d.crashes(func(d *plate) {
				j, told := opened(t, d, 0, 8)
				n := j.Trimmed()
				if n != lsn && (at == 0 || n != 0) {
					t.Fatalf("Trim(%d), the call %d fails: trimmed up to %d", lsn, at, n)
				}
				if last := int(n) + len(told); last < 3 || !sameTxs(told, all[n:last]) {
					t.Fatalf("Trim(%d), the call %d fails: %d to %d are there", lsn, at, n+1, last)
				}
			})
		}
	}
}

// TestToldAgain: what Open has told is told again, however often it is opened, with and without crashes, until it is trimmed (P8.10).
func TestToldAgain(t *testing.T) {
	dice := dice(13)
	for range 200 {
		d := formatted(t, 20, 0, 20)
		j, _ := opened(t, d, 0, 20)
		for i := range 6 {
			appends(t, j, puts(1, i+1), uint64(i+1))
		}
		d.crash(&dice)
		j, told := opened(t, d, 0, 20)
		for n := range 10 {
			d.breakAt(1+dice.below(2*len(told)+6), true, dice.below(2) == 0)
			journal.Open(d, 0, 20)
			d.crash(&dice)
			var again [][]api.Put
			if j, again = opened(t, d, 0, 20); !sameTxs(again, told) {
				t.Fatalf("Open %d: %d transactions, and there were %d", n, len(again), len(told))
			}
		}
		if len(told) > 1 {
			want(t, "Trim", j.Trim(1), api.OK)
			d.crash(&dice)
			if _, again := opened(t, d, 0, 20); !sameTxs(again, told[1:]) {
				t.Fatalf("behind Trim: %d transactions, and there were %d", len(again), len(told))
			}
		}
	}
}

// TestLongRing: a ring is gone round many times, with transactions of all sizes (P8.3, P8.9, P8.11).
func TestLongRing(t *testing.T) {
	dice := dice(14)
	d := newPlate(103)
	l := newLedger(t, d, 101)
	for range 600 {
		for l.append(1 + dice.below(64)) {
		}
		if dice.below(2) == 0 {
			l.sync()
		}
		if l.synced > int(l.j.Trimmed()) {
			l.trim(&dice)
		}
		if dice.below(4) == 0 {
			d.crash(&dice)
			l.open()
		}
	}
	if l.j.Last() < 300 {
		t.Errorf("only %d transactions", l.j.Last())
	}
}
