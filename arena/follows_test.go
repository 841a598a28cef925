package arena_test

import (
	"maps"
	"testing"

	"granary/api"
	"granary/arena"
	"granary/disk"
	"granary/stripe"
)

// ground is a device under a store, whose power may fail, at once or within a call.
type ground interface {
	api.Blocks
	crash(dice *dice)
	mend()
	breakAt(at int, dead, late bool)
}

// rack is layer 6's device on its disks.
type rack struct {
	fault
	t     *testing.T
	g     api.Geometry
	disks []*disk.Disk
	*stripe.Device
}

func newRack(t *testing.T, g api.Geometry) *rack {
	t.Helper()
	r := &rack{t: t, g: g}
	for range g.K + g.M {
		d, e := disk.New(g.Rows, stripe.ShardBytes(g))
		want(t, "disk.New", e, api.OK)
		r.disks = append(r.disks, d)
	}
	r.open()
	return r
}

func (r *rack) open() {
	r.t.Helper()
	d, e := stripe.Open(r.g, r.disks)
	if e != api.OK {
		r.t.Fatalf("stripe.Open: error %d", e)
	}
	r.Device = d
}

func (r *rack) Read(b int) ([]byte, api.Errno) {
	if why, _ := r.refuses(call{'r', b, ""}); why != api.OK {
		return nil, why
	}
	return r.Device.Read(b)
}

func (r *rack) Write(b int, p []byte) api.Errno {
	return r.do(call{'w', b, string(p)}, func() api.Errno { return r.Device.Write(b, p) })
}

func (r *rack) Flush() api.Errno { return r.do(call{'f', 0, ""}, r.Device.Flush) }

// crash leaves of each disk's queue any part; and up to M disks may be replaced besides.
func (r *rack) crash(dice *dice) {
	r.t.Helper()
	for _, d := range r.disks {
		d.Crash(dice.part(len(d.Queue())))
	}
	if dice.below(4) == 0 {
		for range r.g.M {
			r.disks[dice.below(len(r.disks))].Replace()
		}
	}
	r.mend()
	r.open()
}

// set is some chunks.
type set = map[string]struct{}

// ledger is a store, and what must be there behind a crash.
type ledger struct {
	t            *testing.T
	d            ground
	first, count int
	s            *arena.Store
	pool         []string
	there        set // what is there
	synced       set // what was there at the last Sync that was OK, and was not dropped since
	ever         set // all that was put
	found        int // chunks that were not synced, and were there behind a crash
	crashes      int
}

func newLedger(t *testing.T, d ground, first, count int, pool []string) *ledger {
	t.Helper()
	l := &ledger{t: t, d: d, first: first, count: count, pool: pool, there: set{}, synced: set{}, ever: set{}}
	want(t, "Format", arena.Format(d, first, count), api.OK)
	l.open()
	return l
}

// open opens the store, and looks at all that is there (P16.9).
func (l *ledger) open() {
	l.t.Helper()
	l.s = opened(l.t, l.d, l.first, l.count)
	l.there = set{}
	for _, c := range l.pool {
		if !l.s.Has(digest(c)) {
			if _, must := l.synced[c]; must {
				l.t.Fatalf("%s was synced, and is not there", brief(c))
			}
			continue
		}
		if _, was := l.ever[c]; !was {
			l.t.Fatalf("%s was never put, and is there", brief(c))
		}
		l.there[c] = struct{}{}
		if _, must := l.synced[c]; !must {
			l.found++
		}
	}
	if l.s.Len() != len(l.there) {
		l.t.Fatalf("%d are there, of what was put %d", l.s.Len(), len(l.there))
	}
	l.read()
}

// read: all that is there has its bytes (P16.12).
func (l *ledger) read() {
	l.t.Helper()
	for c := range l.there {
		if p, e := l.s.Get(digest(c)); e != api.OK || string(p) != c {
			l.t.Fatalf("Get of %s: %s, error %d", brief(c), brief(string(p)), e)
		}
	}
}

// step does something drawn, and tells whether the device refused within it.
func (l *ledger) step(dice *dice) bool {
	l.t.Helper()
	c := l.pool[dice.below(len(l.pool))]
	switch n := dice.below(20); {
	case n < 9:
		return l.put(c)
	case n < 14:
		return l.drop(c)
	case n < 17:
		return l.sync()
	}
	return l.compact()
}

func (l *ledger) put(c string) bool {
	l.t.Helper()
	free, live, dead := l.s.Free(), l.s.Live(), l.s.Dead()
	d, e := l.s.Put([]byte(c))
	_, was := l.there[c]
	switch {
	case e == api.OK && d == digest(c) && was: // once (P16.10)
		if free != l.s.Free() || live != l.s.Live() || dead != l.s.Dead() {
			l.t.Fatalf("Put of %s, that is there, takes room", brief(c))
		}
	case e == api.OK && d == digest(c):
		l.there[c], l.ever[c] = struct{}{}, struct{}{}
	case e == api.ErrFull && d == api.Digest{} && !was:
	default:
		return true
	}
	return false
}

func (l *ledger) drop(c string) bool {
	l.t.Helper()
	_, was := l.there[c]
	switch e := l.s.Drop(digest(c)); {
	case e == api.OK && was:
		delete(l.there, c)
		delete(l.synced, c)
	case e == api.ErrNone && !was:
	default:
		return true
	}
	return false
}

func (l *ledger) sync() bool {
	l.t.Helper()
	if l.s.Sync() != api.OK {
		return true
	}
	l.synced = maps.Clone(l.there)
	return false
}

func (l *ledger) compact() bool {
	l.t.Helper()
	live := l.s.Live()
	_, e := l.s.Compact()
	if l.s.Live() != live {
		l.t.Fatalf("Compact leaves %d live bytes of %d", l.s.Live(), live)
	}
	return e != api.OK && e != api.ErrFull
}

// format formats the blocks anew, with a crash within it, and again without one.
func (l *ledger) format(dice *dice) {
	l.t.Helper()
	l.d.breakAt(1+dice.below(l.count+1), true, dice.below(2) == 0)
	arena.Format(l.d, l.first, l.count)
	l.synced = set{}
	l.d.crash(dice)
	l.open() // what was there before, or not
	l.d.mend()
	want(l.t, "Format", arena.Format(l.d, l.first, l.count), api.OK)
	l.d.crash(dice)
	l.ever = set{}
	l.open()
}

// run does steps, with crashes between and within them, and calls of the device that are refused without one.
func (l *ledger) run(dice *dice, steps int) {
	l.t.Helper()
	for range steps {
		failed := false
		switch dice.below(12) {
		case 0: // within a call
			l.crashes++
			l.d.breakAt(1+dice.below(8), true, dice.below(2) == 0)
			for n := 0; !failed && n < 100; n++ {
				failed = l.step(dice)
			}
			l.d.crash(dice)
			l.open()
			continue
		case 1: // a call that is refused
			l.d.breakAt(1+dice.below(3), false, dice.below(2) == 0)
		}
		failed = l.step(dice)
		l.d.mend()
		if dice.below(10) == 0 { // at once
			l.crashes++
			l.d.crash(dice)
			l.open()
		} else if failed { // a store that is stopped is opened anew, without a crash
			l.read()
			l.open()
		}
		if dice.below(200) == 0 {
			l.format(dice)
		}
	}
	l.read()
}

// over: all is dropped: behind Sync all blocks are free (P16.11).
func (l *ledger) over() {
	l.t.Helper()
	for c := range l.there {
		want(l.t, "Drop", l.s.Drop(digest(c)), api.OK)
	}
	want(l.t, "Sync", l.s.Sync(), api.OK)
	if l.s.Free() != l.count || l.s.Len() != 0 || l.s.Dead() != 0 || l.s.Live() != 0 {
		l.t.Fatalf("all was dropped: Free %d, Len %d, Dead %d, Live %d", l.s.Free(), l.s.Len(), l.s.Dead(), l.s.Live())
	}
	for b := range l.count {
		if p, e := l.d.Read(l.first + b); e != api.OK || string(p) != zeros {
			l.t.Fatalf("all was dropped: the block %d is %x, error %d", b, p, e)
		}
	}
}

// drawnPool is chunks of drawn lengths, each another.
func drawnPool(dice *dice, n int) []string {
	l := set{}
	var out []string
	for i := range n {
		c := text(1+dice.below(1+dice.below(300)), i)
		if _, is := l[c]; !is {
			l[c] = struct{}{}
			out = append(out, c)
		}
	}
	return out
}

// TestDrawnCrashes: behind whatever crash, between calls and within them, what was synced is there, and nothing that was not put (P16.9 to P16.12).
func TestDrawnCrashes(t *testing.T) {
	t.Parallel()
	dice := dice(11)
	found, crashes := 0, 0
	for _, count := range []int{2, 3, 4, 6, 10, 25} {
		for range 40 {
			l := newLedger(t, newPlate(count+2), 1, count, drawnPool(&dice, 2+dice.below(5*count)))
			l.run(&dice, 200)
			found, crashes = found+l.found, crashes+l.crashes
			l.over()
		}
	}
	if found < 500 || crashes < 500 {
		t.Errorf("behind %d crashes %d chunks that were not synced were there", crashes, found)
	}
}

// TestDrawnStripes: so it is on layer 6's device, whose disks crash each by itself, and are replaced (P16.9 to P16.12).
func TestDrawnStripes(t *testing.T) {
	t.Parallel()
	dice := dice(12)
	for _, g := range []api.Geometry{{K: 1, M: 0}, {K: 1, M: 1}, {K: 2, M: 1}, {K: 4, M: 4}} {
		for _, size := range [][2]int{{3, 40}, {6, 20}, {12, 60}} {
			g.Blocks, g.Rows = size[0]+2, size[1]
			l := newLedger(t, newRack(t, g), 1, size[0], drawnPool(&dice, 4*size[0]))
			l.run(&dice, 150)
			l.d.crash(&dice)
			l.open()
			l.d.Flush()
			l.over()
		}
	}
}

// act is something that is done to a ledger on a plate.
type act func(l *ledger) bool

// acts is what the short scripts are made of.
func acts(pool []string) []act {
	return []act{
		func(l *ledger) bool { return l.put(pool[0]) },
		func(l *ledger) bool { return l.put(pool[1]) },
		func(l *ledger) bool { return l.put(pool[2]) },
		func(l *ledger) bool { return l.drop(pool[0]) },
		func(l *ledger) bool { return l.drop(pool[1]) },
		(*ledger).sync,
		(*ledger).compact,
	}
}

// copied is a ledger on another plate, of which all that was written is as it must be there.
func (l *ledger) copied(d *plate) *ledger {
	return &ledger{t: l.t, d: d, first: l.first, count: l.count, pool: l.pool, synced: maps.Clone(l.synced), ever: l.ever}
}

// TestEveryCrash: all lists of five acts, with each crash that there can be behind the last one and within it: what was synced is there, and stays there behind acts and each crash more (P16.9).
func TestEveryCrash(t *testing.T) {
	t.Parallel()
	pool := some(200, 184, 100)
	l := acts(pool)
	const length = 5
	total := 1
	for range length {
		total *= len(l)
	}
	for number := range total {
		for at := range 5 {
			d := newPlate(3)
			x := newLedger(t, d, 0, 3, pool)
			rest := number
			for range length - 1 {
				l[rest%len(l)](x)
				rest /= len(l)
			}
			d.breakAt(at, true, at%2 == 0)
			if failed := l[rest%len(l)](x); at > 0 && !failed {
				break // it makes fewer calls
			}
			d.mend()
			d.crashes(func(d *plate) {
				next := x.copied(d)
				next.open()
				if number%7 != 0 {
					return
				}
				next.put(pool[2])
				next.drop(pool[0])
				next.compact()
				next.sync()
				next.put(pool[0])
				d.crashes(func(d *plate) { next.copied(d).open() })
			})
		}
	}
}

// TestEveryCrashOfASync: a Sync that writes the open block and wipes several, and one behind a Compact that has moved chunks, with each crash within (P16.6, P16.9).
func TestEveryCrashOfASync(t *testing.T) {
	pool := some(300, 200, 100, 60, 300, 20)
	seen := map[int]int{}
	for at := 1; at <= 9; at++ {
		for _, late := range []bool{false, true} {
			d := newPlate(6)
			x := newLedger(t, d, 0, 6, pool)
			for _, c := range pool {
				x.put(c)
			}
			x.sync()
			x.drop(pool[0])
			x.drop(pool[1])
			x.drop(pool[4])
			for range 3 {
				x.compact()
			}
			d.breakAt(at, true, late)
			x.sync()
			d.mend()
			d.crashes(func(d *plate) {
				next := x.copied(d)
				next.open()
				seen[len(next.there)]++
				next.sync()
				next.over()
			})
		}
	}
	if len(seen) < 3 {
		t.Errorf("behind the crashes there were %v", seen)
	}
}

// TestEveryCrashOfAFormat: behind Format that was OK nothing is there; within it what was there before, or not (P16.2, P16.9).
func TestEveryCrashOfAFormat(t *testing.T) {
	pool := some(300, 200, 100)
	for at := range 5 {
		d := newPlate(3)
		x := newLedger(t, d, 0, 3, pool)
		x.put(pool[0])
		x.put(pool[1])
		x.sync()
		d.breakAt(at, true, false)
		if e := arena.Format(d, 0, 3); (e == api.OK) != (at == 0) {
			t.Fatalf("Format: error %d", e)
		}
		d.mend()
		x.synced = set{}
		d.crashes(func(d *plate) {
			next := x.copied(d)
			next.open()
			if at == 0 && len(next.there) > 0 {
				t.Errorf("behind Format %d are there", len(next.there))
			}
		})
	}
}

// TestOnce: however often a chunk is put, it lies on the device once, and takes no room (P16.10).
func TestOnce(t *testing.T) {
	d, s := fresh(t, 6)
	all := some(300, 200, 100, 60, 5)
	dice := dice(14)
	for range 500 {
		puts(t, s, all[dice.below(len(all))])
		if dice.below(20) == 0 {
			syncs(t, s)
		}
		if dice.below(50) == 0 {
			s = opened(t, d, 0, 6)
		}
	}
	puts(t, s, all...)
	syncs(t, s)
	tells(t, s, 5, 665, 0, s.Free())
	count := map[string]int{}
	for _, p := range d.all() {
		if p != zeros {
			_, l := parsed(p)
			for _, c := range l {
				count[c]++
			}
		}
	}
	for _, c := range all {
		if count[c] != 1 {
			t.Errorf("%s lies there %d times", brief(c), count[c])
		}
	}
}

// TestAllFree: behind Drop of all, and Sync, all blocks are free, and are taken again, for ever (P16.11).
func TestAllFree(t *testing.T) {
	t.Parallel()
	dice := dice(15)
	for _, count := range []int{2, 3, 7} {
		l := newLedger(t, newPlate(count), 0, count, drawnPool(&dice, 9*count))
		for range 100 {
			for range dice.below(60) {
				l.step(&dice)
			}
			l.over()
			l.there, l.synced = set{}, set{}
		}
	}
}
