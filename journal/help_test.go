package journal_test

import (
	"bytes"
	"encoding/binary"
	"slices"
	"testing"

	"granary/api"
	"granary/journal"
)

// errBroken is what a plate answers where it is made to fail: no number of the document's.
const errBroken api.Errno = 999

// top is the greatest number of a journal.
const top = uint64(1 << 62)

// call is one that a device has heard: r, w or f, of which block, with which bytes.
type call struct {
	kind  byte
	block int
	data  string
}

// fault is what a device has heard, and at which call it fails.
type fault struct {
	calls []call
	until int  // the call that fails, from 1 on; 0: none
	dead  bool // from then on all fail
	late  bool // the one that fails is done all the same
}

// fails counts the call, and tells whether it is one that fails, and whether it is done.
func (f *fault) fails(c call) (bool, bool) {
	f.calls = append(f.calls, c)
	if f.until == 0 {
		return false, true
	}
	if f.until > 1 {
		f.until--
		return false, true
	}
	if !f.dead {
		f.until = 0
	}
	done := f.late
	f.late = false
	return true, done
}

// do does what the call asks for, if it is to be done, and answers as the device does.
func (f *fault) do(c call, what func() api.Errno) api.Errno {
	failed, done := f.fails(c)
	e := errBroken
	if done {
		e = what()
	}
	if failed {
		return errBroken
	}
	return e
}

// mend lets all calls go on as they should.
func (f *fault) mend() { f.until, f.dead, f.late = 0, false, false }

// heard is the writes and flushes since the last time, how many calls there were, and forgets them.
func (f *fault) heard() ([]call, int) {
	var out []call
	for _, c := range f.calls {
		if c.kind != 'r' {
			out = append(out, c)
		}
	}
	n := len(f.calls)
	f.calls = nil
	return out, n
}

// plate is a device in memory. It knows of each block what was flushed, and behind it the later writes.
type plate struct {
	fault
	blocks [][]string
}

func newPlate(blocks int) *plate {
	d := &plate{}
	for range blocks {
		d.blocks = append(d.blocks, []string{string(make([]byte, api.BlockBytes))})
	}
	return d
}

func (d *plate) Len() int { return len(d.blocks) }

func (d *plate) Read(b int) ([]byte, api.Errno) {
	if failed, _ := d.fails(call{'r', b, ""}); failed {
		return nil, errBroken
	}
	return d.now(b), api.OK
}

func (d *plate) Write(b int, p []byte) api.Errno {
	return d.do(call{'w', b, string(p)}, func() api.Errno {
		d.blocks[b] = append(d.blocks[b], string(p))
		return api.OK
	})
}

func (d *plate) Flush() api.Errno {
	return d.do(call{'f', 0, ""}, func() api.Errno {
		for b, l := range d.blocks {
			d.keep(b, len(l)-1)
		}
		return api.OK
	})
}

// keep leaves of the block just what was flushed (0), or one of the later writes.
func (d *plate) keep(b, which int) { d.blocks[b] = []string{d.blocks[b][which]} }

// now is what the block reads as.
func (d *plate) now(b int) []byte { return []byte(d.blocks[b][len(d.blocks[b])-1]) }

// lay lays bytes into a block for good.
func (d *plate) lay(b int, p []byte) { d.blocks[b] = []string{string(p)} }

// copied is a plate with the same blocks, that does not fail.
func (d *plate) copied() *plate {
	out := &plate{}
	for _, l := range d.blocks {
		out.blocks = append(out.blocks, slices.Clone(l))
	}
	return out
}

// crash leaves of each block what was flushed, or one of the later writes, as they are drawn; the plate works again.
func (d *plate) crash(dice *dice) {
	for b, l := range d.blocks {
		d.keep(b, dice.below(len(l)))
	}
	d.mend()
}

// crashes calls do with a copy of the plate behind each crash that there can be.
func (d *plate) crashes(do func(d *plate)) {
	var from func(d *plate, b int)
	from = func(d *plate, b int) {
		if b == len(d.blocks) {
			do(d)
			return
		}
		for which := range d.blocks[b] {
			next := d.copied()
			next.keep(b, which)
			from(next, b+1)
		}
	}
	from(d.copied(), 0)
}

// entryBlock is the block of an entry, laid in the chapter's words, also where the entry can not be.
func entryBlock(x api.LogEntry) []byte {
	out := []byte("JLOG")
	for _, n := range []uint64{x.Boot, x.Serial, x.Position, x.Lsn} {
		out = binary.BigEndian.AppendUint64(out, n)
	}
	for _, n := range []int{x.Part, x.Parts, len(x.Bytes)} {
		out = binary.BigEndian.AppendUint16(out, uint16(n))
	}
	out = append(append(out, make([]byte, 6)...), x.Bytes...)
	for len(out) < api.BlockBytes {
		out = append(out, 0)
	}
	return out
}

// superBlock is the block of a superblock, likewise.
func superBlock(x api.LogSuper) []byte {
	out := []byte("JSUP")
	for _, n := range []uint64{x.Generation, x.Boot, x.Position, x.Lsn, x.AfterBoot, x.AfterSerial} {
		out = binary.BigEndian.AppendUint64(out, n)
	}
	return append(out, make([]byte, api.BlockBytes-len(out))...)
}

// txBytes is the bytes of a transaction, likewise.
func txBytes(l []api.Put) []byte {
	out := binary.BigEndian.AppendUint32(nil, uint32(len(l)))
	for _, x := range l {
		out = binary.BigEndian.AppendUint32(out, uint32(x.Block))
		out = append(out, x.Data...)
	}
	return out
}

// entriesOf is the entries of a transaction, of which the head tells all but Part, Parts and Bytes.
func entriesOf(head api.LogEntry, l []api.Put) []api.LogEntry {
	p := txBytes(l)
	var out []api.LogEntry
	for len(p) > 0 {
		n := min(len(p), 336)
		x := head
		x.Part, x.Bytes = len(out), p[:n]
		x.Position += uint64(len(out))
		out = append(out, x)
		p = p[n:]
	}
	for i := range out {
		out[i].Parts = len(out)
	}
	return out
}

// layEntries lays entries where they belong, in a journal that lies so.
func (d *plate) layEntries(first, count int, l []api.LogEntry) {
	for _, x := range l {
		d.lay(first+2+int(x.Position%uint64(count-2)), entryBlock(x))
	}
}

// puts is a transaction of so many puts, all of whose bytes hang on the seed.
func puts(n, seed int) []api.Put {
	var out []api.Put
	for i := range n {
		data := make([]byte, api.BlockBytes)
		for k := range data {
			data[k] = byte(seed*31 + i*7 + k*k)
		}
		out = append(out, api.Put{Block: (seed*1000 + i) % (1 << 31), Data: data})
	}
	return out
}

// sameTx: the puts are the same.
func sameTx(a, b []api.Put) bool {
	return slices.EqualFunc(a, b, func(a, b api.Put) bool { return a.Block == b.Block && bytes.Equal(a.Data, b.Data) })
}

// sameTxs: the transactions are the same.
func sameTxs(a, b [][]api.Put) bool { return slices.EqualFunc(a, b, sameTx) }

// sameEntry: all fields are the same.
func sameEntry(a, b api.LogEntry) bool {
	return a.Boot == b.Boot && a.Serial == b.Serial && a.Position == b.Position && a.Lsn == b.Lsn &&
		a.Part == b.Part && a.Parts == b.Parts && bytes.Equal(a.Bytes, b.Bytes)
}

// want: the error, and no other.
func want(t *testing.T, name string, got, e api.Errno) {
	t.Helper()
	if got != e {
		t.Errorf("%s: error %d, want %d", name, got, e)
	}
}

// formatted is a plate with a journal on it, of which nothing waits.
func formatted(t *testing.T, blocks, first, count int) *plate {
	t.Helper()
	d := newPlate(blocks)
	if e := journal.Format(d, first, count); e != api.OK {
		t.Fatalf("Format: error %d", e)
	}
	d.heard()
	return d
}

// opened is the journal on a device where nothing can be wrong, and what it tells.
func opened(t *testing.T, d api.Blocks, first, count int) (*journal.Journal, [][]api.Put) {
	t.Helper()
	j, told, e := journal.Open(d, first, count)
	if e != api.OK || j == nil {
		t.Fatalf("Open: error %d", e)
	}
	return j, told
}

// refused: no journal, no transaction, and that error.
func refused(t *testing.T, name string, d api.Blocks, first, count int, e api.Errno) {
	t.Helper()
	if j, told, why := journal.Open(d, first, count); j != nil || told != nil || why != e {
		t.Errorf("Open, %s: %v, %d transactions, error %d, want error %d", name, j, len(told), why, e)
	}
}

// appends: the transaction gets that Lsn.
func appends(t *testing.T, j *journal.Journal, tx []api.Put, lsn uint64) {
	t.Helper()
	if n, e := j.Append(tx); n != lsn || e != api.OK {
		t.Fatalf("Append of %d puts: %d, error %d, want %d", len(tx), n, e, lsn)
	}
}

// refuses: the transaction is not appended.
func refuses(t *testing.T, j *journal.Journal, tx []api.Put, e api.Errno) {
	t.Helper()
	if n, why := j.Append(tx); n != 0 || why != e {
		t.Errorf("Append of %d puts: %d, error %d, want error %d", len(tx), n, why, e)
	}
}

// stands: what the journal tells of itself.
func stands(t *testing.T, j *journal.Journal, last, synced, trimmed uint64, room int, boot uint64) {
	t.Helper()
	if j.Last() != last || j.Synced() != synced || j.Trimmed() != trimmed || j.Room() != room || j.Boot() != boot {
		t.Errorf("Last %d, Synced %d, Trimmed %d, Room %d, Boot %d, want %d, %d, %d, %d, %d",
			j.Last(), j.Synced(), j.Trimmed(), j.Room(), j.Boot(), last, synced, trimmed, room, boot)
	}
}

// dice is numbers that look thrown, the same ones each time.
type dice uint64

// below is the next number, of 0 to n - 1.
func (d *dice) below(n int) int {
	*d = *d*6364136223846793005 + 1442695040888963407
	return int(uint64(*d) >> 33 % uint64(n))
}

// part is some of the numbers below n, none and all among them.
func (d *dice) part(n int) []int {
	var out []int
	share := d.below(5)
	for i := range n {
		if d.below(4) < share {
			out = append(out, i)
		}
	}
	return out
}

// spoil writes over all of a list, its spare room too.
func spoil[T any](l []T, with T) {
	l = l[:cap(l)]
	for i := range l {
		l[i] = with
	}
}
