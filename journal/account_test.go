package journal_test

import (
	"slices"
	"testing"

	"granary/api"
	"granary/journal"
)

// paper is a transaction in a book.
type paper struct {
	head api.LogEntry
	tx   []api.Put
}

// need is how many entries it takes.
func (p paper) need() int { return len(entriesOf(p.head, p.tx)) }

// book is a journal in the chapter's words, with all that was ever appended, beside one on a plate.
type book struct {
	t            *testing.T
	d            *plate
	first, count int
	j            *journal.Journal
	papers       []paper // by their Lsn, from 1 on
	trimmed      int
	synced       int
	super        api.LogSuper
	used         uint64 // Generations
	serial       uint64
	drawn        int
}

func newBook(t *testing.T, first, count int) *book {
	t.Helper()
	b := &book{t: t, d: formatted(t, first+count+1, first, count), first: first, count: count}
	b.super, b.used = api.LogSuper{Boot: 1}, 2
	b.open(0)
	return b
}

// room is P8.11.
func (b *book) room() int {
	out := b.count - 2
	for _, each := range b.papers[b.trimmed:] {
		out -= each.need()
	}
	return out
}

// position is behind the last transaction.
func (b *book) position() uint64 {
	if len(b.papers) == 0 {
		return 0
	}
	last := b.papers[len(b.papers)-1]
	return last.head.Position + uint64(last.need())
}

// heard: of these calls the device has heard all, or those up to the one that fails; and the answer is so.
func (b *book) heard(name string, l []call, fails int, e api.Errno) bool {
	b.t.Helper()
	because := api.OK
	if fails > 0 && fails <= len(l) {
		l, because = l[:fails], errBroken
	}
	b.d.until = 0
	if got, _ := b.d.heard(); e != because || !slices.Equal(got, l) {
		b.t.Fatalf("%s, the call %d fails: error %d, want %d; wrote %x, want %x", name, fails, e, because, got, l)
	}
	return because == api.OK
}

// append appends so many puts, on a device on which a call may fail.
func (b *book) append(n, fails int) {
	b.t.Helper()
	b.drawn++
	tx := puts(n, b.drawn)
	next := paper{api.LogEntry{Boot: b.super.Boot, Serial: b.serial + 1, Position: b.position(), Lsn: uint64(len(b.papers) + 1)}, tx}
	if n < 1 || n > 64 {
		refuses(b.t, b.j, tx, api.ErrTx)
		b.heard("Append", nil, 0, api.OK)
		return
	}
	if next.need() > b.room() {
		refuses(b.t, b.j, tx, api.ErrFull)
		b.heard("Append", nil, 0, api.OK)
		return
	}
	b.serial++
	b.d.until = fails
	lsn, e := b.j.Append(tx)
	if b.heard("Append", txCalls(b.first, b.count, next.head, tx), fails, e) {
		b.papers = append(b.papers, next)
		if lsn != next.head.Lsn {
			b.t.Fatalf("Append: %d, want %d", lsn, next.head.Lsn)
		}
	} else if lsn != 0 {
		b.t.Fatalf("Append: %d beside an error", lsn)
	}
}

// sync syncs, likewise.
func (b *book) sync(fails int) {
	b.t.Helper()
	b.d.until = fails
	if b.heard("Sync", []call{{kind: 'f'}}, fails, b.j.Sync()) {
		b.synced = len(b.papers)
	}
}

// trim trims, likewise.
func (b *book) trim(lsn, fails int) {
	b.t.Helper()
	if lsn > b.synced || lsn < b.trimmed || lsn < 0 {
		want(b.t, "Trim", b.j.Trim(uint64(lsn)), api.ErrArg)
		b.heard("Trim", nil, 0, api.OK)
		return
	}
	b.d.until = fails
	e := b.j.Trim(uint64(lsn))
	if lsn == b.trimmed {
		b.heard("Trim", nil, 0, e)
		return
	}
	p := b.papers[lsn-1]
	b.used++
	next := api.LogSuper{Generation: b.used, Boot: b.super.Boot, Position: p.head.Position + uint64(p.need()), Lsn: uint64(lsn), AfterBoot: p.head.Boot, AfterSerial: p.head.Serial}
	if b.heard("Trim", superCalls(b.first, next), fails, e) {
		b.super, b.trimmed, b.synced = next, lsn, len(b.papers)
	}
}

// open opens the journal anew, without a crash: all that is not trimmed is there. A superblock that Trim could not flush counts.
func (b *book) open(fails int) {
	b.t.Helper()
	super, _, _ := b.d.plainly(b.first, b.count)
	b.used = super.Generation
	if super.Generation != b.super.Generation {
		b.super, b.trimmed = super, int(super.Lsn)
	}
	reads := b.d.copied()
	if _, told := opened(b.t, reads, b.first, b.count); len(told) != len(b.papers)-b.trimmed {
		b.t.Fatalf("Open: %d transactions, want %d", len(told), len(b.papers)-b.trimmed)
	}
	_, calls := reads.heard()
	next := super
	next.Generation++
	next.Boot++
	late := max(0, fails-(calls-2))
	if fails > 0 && late == 0 {
		b.d.until = fails
		refused(b.t, "a read fails", b.d, b.first, b.count, errBroken)
		b.heard("Open", nil, 0, api.OK)
		b.openAgain()
		return
	}
	b.d.until = fails
	j, told, e := journal.Open(b.d, b.first, b.count)
	if !b.heard("Open", superCalls(b.first, next), late, e) {
		if j != nil || told != nil {
			b.t.Fatalf("Open: %v, %d transactions beside an error", j, len(told))
		}
		b.openAgain()
		return
	}
	b.j, b.super, b.used, b.serial, b.synced = j, next, next.Generation, 0, len(b.papers)
	for i, each := range b.papers[b.trimmed:] {
		if !sameTx(told[i], each.tx) {
			b.t.Fatalf("Open: the transaction %d is another", each.head.Lsn)
		}
	}
}

// openAgain opens, where Open failed, without a failure. (An Open that failed may have left its superblock.)
func (b *book) openAgain() {
	b.t.Helper()
	b.super, _, _ = b.d.plainly(b.first, b.count)
	b.open(0)
}

// agree: the journal tells what the book says.
func (b *book) agree() {
	b.t.Helper()
	stands(b.t, b.j, uint64(len(b.papers)), uint64(b.synced), uint64(b.trimmed), b.room(), b.super.Boot)
	if b.t.Failed() {
		b.t.FailNow()
	}
}

// TestShortAccounts: all lists of four of some steps, on a small ring, with calls of the device that fail (P8.4 to P8.8, P8.11).
func TestShortAccounts(t *testing.T) {
	steps := []func(b *book){
		func(b *book) { b.append(1, 0) },
		func(b *book) { b.append(2, 0) },
		func(b *book) { b.append(1, 2) },
		func(b *book) { b.append(2, 3) },
		func(b *book) { b.sync(0) },
		func(b *book) { b.sync(1) },
		func(b *book) { b.trim(b.trimmed+1, 0) },
		func(b *book) { b.trim(b.synced, 0) },
		func(b *book) { b.trim(b.synced, 1) },
		func(b *book) { b.trim(b.synced, 2) },
		func(b *book) { b.open(0) },
		func(b *book) { b.open(5) },
	}
	const length = 4
	total := 1
	for range length {
		total *= len(steps)
	}
	for number := range total {
		b := newBook(t, 0, 8)
		b.append(1, 0)
		for rest, n := number, length; n > 0; rest, n = rest/len(steps), n-1 {
			steps[rest%len(steps)](b)
		}
		b.agree()
		b.open(0)
		b.agree()
	}
}

// TestDrawnAccounts: long lists of steps, on rings of many sizes, with calls of the device that fail (P8.3 to P8.8, P8.11).
func TestDrawnAccounts(t *testing.T) {
	dice := dice(9)
	for _, count := range []int{6, 7, 8, 9, 13, 20, 50, 90} {
		for range 12 {
			b := newBook(t, dice.below(3), count)
			for range 150 {
				fails := max(0, dice.below(12)-5)
				switch n := dice.below(20); {
				case n < 8:
					b.append(dice.below(4), fails)
				case n < 9:
					b.append(dice.below(67), fails)
				case n < 12:
					b.sync(fails)
				case n < 18:
					b.trim(b.trimmed-1+dice.below(b.synced-b.trimmed+3), fails)
				default:
					b.open(fails)
				}
				b.agree()
			}
		}
	}
}
