package journal_test

import (
	"bytes"
	"math"
	"testing"

	"granary/api"
	"granary/journal"
)

// someEntry is an entry all of whose fields are another.
func someEntry() api.LogEntry {
	return api.LogEntry{
		Boot: 0x0102030405060708, Serial: 0x1112131415161718, Position: 0x2122232425262728, Lsn: 0x3132333435363738,
		Part: 5, Parts: 9, Bytes: []byte("what it holds"),
	}
}

// isEntry: Put and Get of the entry are as the chapter's words say, where it can be.
func isEntry(t *testing.T, x api.LogEntry) {
	t.Helper()
	b := entryBlock(x)
	if got, e := journal.PutEntry(x); e != api.OK || !bytes.Equal(got, b) {
		t.Errorf("PutEntry of %+v: %x, error %d, want %x", x, got, e, b)
	}
	if got, e := journal.GetEntry(b); e != api.OK || !sameEntry(got, x) {
		t.Errorf("GetEntry of %x: %+v, error %d, want %+v", b, got, e, x)
	}
}

// isNoEntry: neither can be put, nor got, where its numbers have room.
func isNoEntry(t *testing.T, x api.LogEntry) {
	t.Helper()
	if got, e := journal.PutEntry(x); e != api.ErrEntry || got != nil {
		t.Errorf("PutEntry of %+v: %x, error %d", x, got, e)
	}
	if x.Part >= 0 && x.Part < 1<<16 && x.Parts >= 0 && x.Parts < 1<<16 && len(x.Bytes) < 1<<16 {
		getsNoEntry(t, entryBlock(x))
	}
}

// getsNoEntry: the bytes are no entry's.
func getsNoEntry(t *testing.T, b []byte) {
	t.Helper()
	if got, e := journal.GetEntry(b); e != api.ErrEntry || !sameEntry(got, api.LogEntry{}) || got.Bytes != nil {
		t.Errorf("GetEntry of %x: %+v, error %d", b, got, e)
	}
}

// TestEntryNumbers: each of the four numbers at its ends (P8.1, P8.12).
func TestEntryNumbers(t *testing.T) {
	isEntry(t, someEntry())
	for i := range 4 {
		for _, c := range []struct {
			n  uint64
			ok bool
		}{{0, i == 2}, {1, true}, {255, true}, {256, true}, {top - 1, true}, {top, true}, {top + 1, false}, {1 << 63, false}, {1<<64 - 1, false}} {
			x := someEntry()
			*[]*uint64{&x.Boot, &x.Serial, &x.Position, &x.Lsn}[i] = c.n
			if c.ok {
				isEntry(t, x)
			} else {
				isNoEntry(t, x)
			}
		}
	}
}

// TestEntryParts: Part and Parts at their ends (P8.1, P8.12).
func TestEntryParts(t *testing.T) {
	ends := []int{math.MinInt, -1 << 16, -1, 0, 1, 2, 98, 99, 100, 101, 255, 256, 1<<16 - 1, 1 << 16, 1<<16 + 1, 1<<32 + 1, math.MaxInt}
	for _, parts := range ends {
		for _, part := range append([]int{parts - 1, parts, parts + 1}, ends...) {
			x := someEntry()
			x.Part, x.Parts = part, parts
			if parts >= 1 && parts <= 100 && part >= 0 && part <= parts-1 {
				isEntry(t, x)
			} else {
				isNoEntry(t, x)
			}
		}
	}
	for parts := 1; parts <= 100; parts++ {
		for part := range parts {
			x := someEntry()
			x.Part, x.Parts = part, parts
			isEntry(t, x)
		}
	}
}

// TestEntryBytes: what an entry holds is 1 to 336 bytes, of whatever kind (P8.1, P8.12).
func TestEntryBytes(t *testing.T) {
	for n := range 400 {
		for _, c := range []byte{0, 'x', 255} {
			x := someEntry()
			x.Bytes = bytes.Repeat([]byte{c}, n)
			if n >= 1 && n <= 336 {
				isEntry(t, x)
			} else {
				isNoEntry(t, x)
			}
		}
	}
	x := someEntry()
	x.Bytes = nil
	isNoEntry(t, x)
	for _, n := range []int{1 << 16, 1<<16 + 1} {
		x.Bytes = make([]byte, n)
		isNoEntry(t, x)
	}
}

// plainEntry: whether the block is an entry's, and of which, field by field.
func plainEntry(b []byte) (api.LogEntry, bool) {
	if len(b) != 384 || string(b[:4]) != "JLOG" {
		return api.LogEntry{}, false
	}
	number := func(at, size int) uint64 {
		n := uint64(0)
		for _, c := range b[at : at+size] {
			n = n*256 + uint64(c)
		}
		return n
	}
	x := api.LogEntry{Boot: number(4, 8), Serial: number(12, 8), Position: number(20, 8), Lsn: number(28, 8), Part: int(number(36, 2)), Parts: int(number(38, 2))}
	n := int(number(40, 2))
	if n < 1 || n > 336 || number(42, 6) != 0 || len(bytes.Trim(b[48+n:], "\x00")) != 0 {
		return api.LogEntry{}, false
	}
	x.Bytes = b[48 : 48+n]
	if x.Boot < 1 || x.Boot > top || x.Serial < 1 || x.Serial > top || x.Position > top || x.Lsn < 1 || x.Lsn > top {
		return api.LogEntry{}, false
	}
	return x, x.Parts >= 1 && x.Parts <= 100 && x.Part < x.Parts
}

// TestEntryChanged: each byte of a block is changed to each other one; where it is an entry still, Put of it is those bytes (P8.1, P8.12).
func TestEntryChanged(t *testing.T) {
	full := someEntry()
	full.Bytes = bytes.Repeat([]byte{1}, 336)
	edge := api.LogEntry{Boot: top, Serial: top, Position: top, Lsn: top, Part: 99, Parts: 100, Bytes: []byte{0, 0}}
	least := api.LogEntry{Boot: 1, Serial: 1, Lsn: 1, Parts: 1, Bytes: []byte{0}}
	still := 0
	for _, x := range []api.LogEntry{someEntry(), full, edge, least} {
		b := entryBlock(x)
		for at := range b {
			for change := range 255 {
				b[at] ^= byte(change + 1)
				if y, ok := plainEntry(b); ok {
					isEntry(t, y)
					still++
				} else {
					getsNoEntry(t, b)
				}
				b[at] ^= byte(change + 1)
			}
		}
	}
	if still < 100000 {
		t.Errorf("only %d were entries", still)
	}
}

// TestBlockLengths: a block has 384 bytes, no fewer and no more (P8.1).
func TestBlockLengths(t *testing.T) {
	entry, super := entryBlock(someEntry()), superBlock(someSuper())
	for n := range api.BlockBytes {
		getsNoEntry(t, entry[:n])
		getsNoSuper(t, super[:n])
	}
	for _, more := range [][]byte{{0}, {1}, make([]byte, 384), entry, super} {
		getsNoEntry(t, append(bytes.Clone(entry), more...))
		getsNoSuper(t, append(bytes.Clone(super), more...))
	}
	getsNoEntry(t, nil)
	getsNoSuper(t, nil)
	getsNoEntry(t, make([]byte, 384))
	getsNoSuper(t, make([]byte, 384))
	getsNoEntry(t, super)
	getsNoSuper(t, entry)
}

// someSuper is a superblock all of whose fields are another.
func someSuper() api.LogSuper {
	return api.LogSuper{
		Generation: 0x0102030405060708, Boot: 0x1112131415161718, Position: 0x2122232425262728,
		Lsn: 0x3132333435363738, AfterBoot: 0x0908070605040302, AfterSerial: 0x1918171615141312,
	}
}

// isSuper: Put and Get of the superblock are as the chapter's words say.
func isSuper(t *testing.T, x api.LogSuper) {
	t.Helper()
	b := superBlock(x)
	if got, e := journal.PutSuper(x); e != api.OK || !bytes.Equal(got, b) {
		t.Errorf("PutSuper of %+v: %x, error %d, want %x", x, got, e, b)
	}
	if got, e := journal.GetSuper(b); e != api.OK || got != x {
		t.Errorf("GetSuper of %x: %+v, error %d, want %+v", b, got, e, x)
	}
}

// getsNoSuper: the bytes are no superblock's.
func getsNoSuper(t *testing.T, b []byte) {
	t.Helper()
	if got, e := journal.GetSuper(b); e != api.ErrEntry || got != (api.LogSuper{}) {
		t.Errorf("GetSuper of %x: %+v, error %d", b, got, e)
	}
}

// superFields is where the fields lie, in their order.
func superFields(x *api.LogSuper) []*uint64 {
	return []*uint64{&x.Generation, &x.Boot, &x.Position, &x.Lsn, &x.AfterBoot, &x.AfterSerial}
}

// canBeSuper: P8.1 of a superblock's fields.
func canBeSuper(x api.LogSuper) bool {
	for _, n := range superFields(&x) {
		if *n > top {
			return false
		}
	}
	return x.Generation != 0 && x.Boot != 0
}

// TestSuperFields: each field at its ends (P8.1, P8.12).
func TestSuperFields(t *testing.T) {
	for i := range 6 {
		for _, n := range []uint64{0, 1, 255, 256, top - 1, top, top + 1, 1 << 63, 1<<64 - 1} {
			x := someSuper()
			*superFields(&x)[i] = n
			if canBeSuper(x) {
				isSuper(t, x)
				continue
			}
			if got, e := journal.PutSuper(x); e != api.ErrEntry || got != nil {
				t.Errorf("PutSuper of %+v: %x, error %d", x, got, e)
			}
			getsNoSuper(t, superBlock(x))
		}
	}
	isSuper(t, api.LogSuper{Generation: 1, Boot: 1})
	isSuper(t, api.LogSuper{Generation: top, Boot: top, Position: top, Lsn: top, AfterBoot: top, AfterSerial: top})
}

// TestSuperChanged: each byte of a block is changed to each other one; where it is a superblock still, Put of it is those bytes (P8.1, P8.12).
func TestSuperChanged(t *testing.T) {
	for _, x := range []api.LogSuper{someSuper(), {Generation: 1, Boot: 1}, {Generation: top, Boot: top, Position: top, Lsn: top}} {
		b := superBlock(x)
		for at := range b {
			for change := range 255 {
				b[at] ^= byte(change + 1)
				y := x
				if at >= 4 && at < 52 {
					*superFields(&y)[(at-4)/8] ^= uint64(change+1) << (8 * (7 - (at-4)%8))
				}
				if y != x && canBeSuper(y) {
					isSuper(t, y)
				} else {
					getsNoSuper(t, b)
				}
				b[at] ^= byte(change + 1)
			}
		}
	}
}
