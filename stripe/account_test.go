package stripe_test

import (
	"bytes"
	"slices"
	"testing"

	"granary/api"
	"granary/disk"
	"granary/rs"
	"granary/stripe"
)

// account is a device as the chapter's words tell it, kept as plainly as can be, on disks of its own.
type account struct {
	g      api.Geometry
	disks  []*disk.Disk
	rows   map[int]int    // the row in which a block lies
	marks  map[int]uint64 // the sequence with which it lies there
	closed map[int]bool   // rows that blocks left, or were being written to, since the last Flush
	next   uint64
}

// shardAt is the shard of the row on the disk i, and whether it is right.
func (a *account) shardAt(row, i int) (api.Shard, bool) {
	p, e := a.disks[i].Read(row)
	if e != api.OK || len(p) != 32+384/a.g.K || string(p[:4]) != "SHRD" || !bytes.Equal(p, summed(p[:len(p)-4])) {
		return api.Shard{}, false
	}
	s := api.Shard{Index: int(p[16]), K: int(p[17]), M: int(p[18]), Data: p[28 : len(p)-4]}
	for _, b := range p[4:8] {
		s.Block = s.Block*256 + int(b)
	}
	for _, b := range p[8:16] {
		s.Sequence = s.Sequence*256 + uint64(b)
	}
	ok := s.Index == i && s.K == a.g.K && s.M == a.g.M && s.Block < a.g.Blocks && s.Sequence > 0 && bytes.Equal(p[19:28], make([]byte, 9))
	return s, ok
}

// those is the numbers of the right shards of the row with that block and sequence.
func (a *account) those(row, b int, sequence uint64) []int {
	var out []int
	for i := range a.disks {
		if s, ok := a.shardAt(row, i); ok && s.Block == b && s.Sequence == sequence {
			out = append(out, i)
		}
	}
	return out
}

// working is how many disks have not failed.
func (a *account) working() int {
	n := 0
	for _, d := range a.disks {
		if !d.Failed() {
			n++
		}
	}
	return n
}

// openAccount is P6.3 of disks that are as many and as great as they should be.
func openAccount(g api.Geometry, disks []*disk.Disk) (*account, api.Errno) {
	a := &account{g: g, disks: disks, rows: map[int]int{}, marks: map[int]uint64{}, closed: map[int]bool{}, next: 1}
	if a.working() < g.K {
		return nil, api.ErrFew
	}
	for row := range g.Rows {
		for i := range disks {
			s, ok := a.shardAt(row, i)
			if !ok {
				continue
			}
			a.next = max(a.next, s.Sequence+1)
			_, there := a.rows[s.Block]
			if len(a.those(row, s.Block, s.Sequence)) >= g.K && (!there || s.Sequence > a.marks[s.Block]) {
				a.rows[s.Block], a.marks[s.Block] = row, s.Sequence
			}
		}
	}
	for b := range g.Blocks {
		a.heal(b)
	}
	for _, d := range disks {
		d.Flush()
	}
	return a, api.OK
}

// whole is all shards of a block, by the first K that are right.
func (a *account) whole(b int) ([][]byte, bool) {
	which := a.those(a.rows[b], b, a.marks[b])
	if len(which) < a.g.K {
		return nil, false
	}
	shards, have := make([][]byte, len(a.disks)), make([]bool, len(a.disks))
	for _, i := range which[:a.g.K] {
		s, _ := a.shardAt(a.rows[b], i)
		shards[i], have[i] = s.Data, true
	}
	c, _ := rs.New(a.g.K, a.g.M)
	out, e := c.Rebuild(shards, have)
	return out, e == api.OK
}

func (a *account) read(b int) ([]byte, api.Errno) {
	if b < 0 || b > a.g.Blocks-1 {
		return nil, api.ErrArg
	}
	if _, ok := a.rows[b]; !ok {
		return full(0), api.OK
	}
	shards, ok := a.whole(b)
	if !ok {
		return nil, api.ErrGone
	}
	return bytes.Join(shards[:a.g.K], nil), api.OK
}

// isFree is the word free of P6.5.
func (a *account) isFree(row int) bool {
	for _, each := range a.rows {
		if each == row {
			return false
		}
	}
	return !a.closed[row]
}

func (a *account) free() []int {
	var out []int
	for row := range a.g.Rows {
		if a.isFree(row) {
			out = append(out, row)
		}
	}
	return out
}

func (a *account) write(t *testing.T, b int, p []byte) api.Errno {
	if b < 0 || b > a.g.Blocks-1 {
		return api.ErrArg
	}
	if len(p) != 384 {
		return api.ErrLong
	}
	if a.working() < a.g.K {
		return api.ErrFew
	}
	free := a.free()
	if len(free) == 0 {
		return api.ErrFull
	}
	sequence := a.next
	a.next++
	a.closed[free[0]] = true
	for i, sector := range rowBytes(t, a.g, b, sequence, p) {
		if a.disks[i].Failed() {
			continue
		}
		if e := a.disks[i].Write(free[0], sector); e != api.OK {
			return e
		}
	}
	if row, ok := a.rows[b]; ok {
		a.closed[row] = true
	}
	a.rows[b], a.marks[b] = free[0], sequence
	return api.OK
}

func (a *account) flush() api.Errno {
	n := 0
	for _, d := range a.disks {
		if d.Flush() == api.OK {
			n++
		}
	}
	if n < a.g.K {
		return api.ErrFew
	}
	a.closed = map[int]bool{}
	return api.OK
}

func (a *account) look(b int) ([]int, api.Errno) {
	if b < 0 || b > a.g.Blocks-1 {
		return nil, api.ErrArg
	}
	row, ok := a.rows[b]
	if !ok {
		return nil, api.ErrNone
	}
	which := a.those(row, b, a.marks[b])
	var out []int
	for i, d := range a.disks {
		state := api.ShardWrong
		if d.Failed() {
			state = api.ShardFailed
		} else if slices.Contains(which, i) {
			state = api.ShardRight
		}
		out = append(out, state)
	}
	return out, api.OK
}

// mend is Heal, and how many shards were written whether there was an error or not.
func (a *account) mend(b int) (int, api.Errno) {
	states, e := a.look(b)
	if e != api.OK {
		return 0, e
	}
	shards, ok := a.whole(b)
	if !ok {
		return 0, api.ErrGone
	}
	n := 0
	for i, state := range states {
		if state != api.ShardWrong {
			continue
		}
		s := api.Shard{Block: b, Sequence: a.marks[b], Index: i, K: a.g.K, M: a.g.M, Data: shards[i]}
		if e := a.disks[i].Write(a.rows[b], schoolPut(s)); e != api.OK {
			return n, e
		}
		n++
	}
	return n, api.OK
}

func (a *account) heal(b int) (int, api.Errno) {
	n, e := a.mend(b)
	if e != api.OK {
		n = 0
	}
	return n, e
}

func (a *account) rebuild() (int, api.Errno) {
	total, first := 0, api.OK
	for b := range a.g.Blocks {
		if _, ok := a.rows[b]; !ok {
			continue
		}
		n, e := a.mend(b)
		total += n
		if first == api.OK {
			first = e
		}
	}
	e := a.flush()
	if first == api.OK {
		first = e
	}
	return total, first
}

// pair is a device and the account of it.
type pair struct {
	t *testing.T
	d *stripe.Device
	a *account
}

// newPair is both on disks that are alike.
func newPair(t *testing.T, g api.Geometry, more int) *pair {
	t.Helper()
	p := &pair{t: t, a: &account{g: g, disks: newDisks(t, g, more)}}
	p.d = opened(t, g, copies(p.a.disks))
	var e api.Errno
	p.a, e = openAccount(g, p.a.disks)
	want(t, "the account", e, api.OK)
	return p
}

// open opens both anew; where that is refused, both go on as they were.
func (p *pair) open() {
	p.t.Helper()
	d, e := stripe.Open(p.a.g, p.d.Disks())
	a, why := openAccount(p.a.g, p.a.disks)
	if e != why || (d == nil) != (e != api.OK) {
		p.t.Fatalf("Open: error %d, want %d", e, why)
	}
	if e == api.OK {
		p.d, p.a = d, a
	}
}

// onDisk does something to the same disk of both.
func (p *pair) onDisk(i int, do func(d *disk.Disk) api.Errno) {
	p.t.Helper()
	if got, e := do(p.d.Disks()[i]), do(p.a.disks[i]); got != e {
		p.t.Fatalf("the disk %d: error %d, and of the account's %d", i, got, e)
	}
}

func (p *pair) write(b int, data []byte) {
	p.t.Helper()
	if got, e := p.d.Write(b, data), p.a.write(p.t, b, data); got != e {
		p.t.Fatalf("Write(%d): error %d, want %d", b, got, e)
	}
}

func (p *pair) flush() {
	p.t.Helper()
	if got, e := p.d.Flush(), p.a.flush(); got != e {
		p.t.Fatalf("Flush: error %d, want %d", got, e)
	}
}

func (p *pair) heal(b int) {
	p.t.Helper()
	n, e := p.a.heal(b)
	if got, why := p.d.Heal(b); got != n || why != e {
		p.t.Fatalf("Heal(%d): %d, error %d, want %d, error %d", b, got, why, n, e)
	}
}

func (p *pair) rebuild() {
	p.t.Helper()
	n, e := p.a.rebuild()
	if got, why := p.d.Rebuild(); got != n || why != e {
		p.t.Fatalf("Rebuild: %d, error %d, want %d, error %d", got, why, n, e)
	}
}

// agree: everything that the device tells is what the account has, and their disks are alike.
func (p *pair) agree() {
	p.t.Helper()
	var lost []int
	for b := -1; b <= p.a.g.Blocks; b++ {
		data, e := p.a.read(b)
		if got, why := p.d.Read(b); why != e || !bytes.Equal(got, data) {
			p.t.Fatalf("Read(%d): %x, error %d, want %x, error %d", b, got, why, data, e)
		}
		states, e2 := p.a.look(b)
		if got, why := p.d.Look(b); why != e2 || !slices.Equal(got, states) {
			p.t.Fatalf("Look(%d): %v, error %d, want %v, error %d", b, got, why, states, e2)
		}
		row, ok := p.a.rows[b]
		if got, there := p.d.RowOf(b); got != row || there != ok {
			p.t.Fatalf("RowOf(%d): %d, %v, want %d, %v", b, got, there, row, ok)
		}
		if e == api.ErrGone {
			lost = append(lost, b)
		}
	}
	if got := p.d.Lost(); !slices.Equal(got, lost) {
		p.t.Fatalf("Lost: %v, want %v", got, lost)
	}
	if p.d.FreeRows() != len(p.a.free()) || p.d.Sequence() != p.a.next || p.d.Len() != p.a.g.Blocks || p.d.Geometry() != p.a.g {
		p.t.Fatalf("FreeRows %d, Sequence %d, Len %d, want %d, %d, %d", p.d.FreeRows(), p.d.Sequence(), p.d.Len(), len(p.a.free()), p.a.next, p.a.g.Blocks)
	}
	for i, d := range p.d.Disks() {
		if !disk.Same(d, p.a.disks[i]) || d.Writes() != p.a.disks[i].Writes() {
			p.t.Fatalf("the disk %d is not the account's", i)
		}
	}
}

// handMade is a sector that somebody else may have left, most often a shard, right or not.
func handMade(dice *dice, g api.Geometry) []byte {
	s := api.Shard{
		Block: dice.below(g.Blocks + 1), Sequence: uint64(1 + dice.below(12)), Index: dice.below(g.K + g.M),
		K: g.K, M: g.M, Data: dice.bytes(384 / g.K),
	}
	switch dice.below(12) {
	case 0:
		s.K = dice.below(6)
	case 1:
		s.M = dice.below(6)
	case 2:
		s.Sequence = 0
	case 3:
		s.Index = dice.below(256)
	}
	p := schoolPut(s)
	if dice.below(10) == 0 {
		p[dice.below(len(p))] ^= 1 << dice.below(8)
	}
	return p
}

// step does something drawn to both.
func (p *pair) step(dice *dice) {
	g := p.a.g
	b, i, row := dice.below(g.Blocks), dice.below(g.K+g.M), dice.below(g.Rows)
	switch n := dice.below(40); {
	case n < 14:
		p.write(b, dice.bytes(384))
	case n == 14:
		p.write([]int{-1, g.Blocks, b, b, -1 << 63, 1<<63 - 1}[dice.below(6)], dice.bytes([]int{383, 385, 0}[dice.below(3)]))
	case n < 19:
		p.flush()
	case n < 22:
		for i := range p.a.disks {
			keep := dice.part(len(p.a.disks[i].Queue()))
			p.onDisk(i, func(d *disk.Disk) api.Errno { d.Crash(keep); return api.OK })
		}
		if dice.below(4) > 0 {
			p.open()
		}
	case n == 22:
		p.open()
	case n == 23:
		sector, other := handMade(dice, g), handMade(dice, g)
		p.onDisk(i, func(d *disk.Disk) api.Errno { return d.Write(row, sector[:min(len(sector), d.Size())]) })
		p.onDisk(dice.below(g.K+g.M), func(d *disk.Disk) api.Errno { return d.Write(row, other[:min(len(other), d.Size())]) })
		p.open()
	case n < 27:
		p.heal(b)
	case n == 27:
		p.rebuild()
	case n == 28:
		p.onDisk(i, func(d *disk.Disk) api.Errno { d.Fail(); return api.OK })
	case n < 31:
		p.onDisk(i, func(d *disk.Disk) api.Errno { d.Replace(); return api.OK })
	case n < 36:
		p.onDisk(i, func(d *disk.Disk) api.Errno { return d.Lose(row) })
	default:
		bit, mask := dice.below(8*(32+384/g.K)), dice.word()
		p.onDisk(i, func(d *disk.Disk) api.Errno { return d.Turn(row, bit, mask) })
	}
}

// TestDrawnAccounts: long lists of what may be done to a device and its disks, and behind each step all that can be asked (P6.3 to P6.8).
func TestDrawnAccounts(t *testing.T) {
	dice := dice(6)
	everyCount(0, 0, func(g api.Geometry) {
		for _, size := range [][2]int{{1, 2}, {2, 3}, {3, 5}, {4, 9}} {
			g.Blocks, g.Rows = size[0], size[1]
			p := newPair(t, g, dice.below(3))
			for range 150 {
				p.step(&dice)
				p.agree()
			}
		}
	})
}

// TestShortAccounts: all lists of four of some steps, on the smallest device whose rows may hold two blocks (P6.3 to P6.8).
func TestShortAccounts(t *testing.T) {
	a, b := full('a'), full('b')
	crash := func(keep ...[]int) func(p *pair) {
		return func(p *pair) {
			for i := range keep {
				p.onDisk(i, func(d *disk.Disk) api.Errno { d.Crash(keep[i]); return api.OK })
			}
			p.open()
		}
	}
	steps := []func(p *pair){
		func(p *pair) { p.write(0, a) },
		func(p *pair) { p.write(1, b) },
		func(p *pair) { p.flush() },
		crash(nil, nil),
		crash([]int{0}, []int{1, 2}),
		func(p *pair) { p.onDisk(0, func(d *disk.Disk) api.Errno { d.Fail(); return api.OK }) },
		func(p *pair) { p.onDisk(0, func(d *disk.Disk) api.Errno { d.Replace(); return api.OK }) },
		func(p *pair) { p.onDisk(1, func(d *disk.Disk) api.Errno { return d.Lose(0) }) },
		func(p *pair) { p.heal(0) },
		func(p *pair) { p.rebuild() },
		func(p *pair) { p.open() },
	}
	const length = 4
	total := 1
	for range length {
		total *= len(steps)
	}
	for number := range total {
		p := newPair(t, api.Geometry{K: 1, M: 1, Blocks: 2, Rows: 4}, 0)
		for rest, n := number, length; n > 0; rest, n = rest/len(steps), n-1 {
			steps[rest%len(steps)](p)
		}
		p.agree()
	}
}
