package journal_test

import (
	"slices"
	"testing"

	"granary/api"
	"granary/journal"
)

// found is a transaction as it lies in a ring.
type found struct {
	head api.LogEntry
	tx   []api.Put
}

// plainSuper: whether the block is a superblock, and which.
func plainSuper(b []byte) (api.LogSuper, bool) {
	var x api.LogSuper
	if len(b) != 384 {
		return x, false
	}
	for i, n := range superFields(&x) {
		for _, c := range b[4+8*i : 12+8*i] {
			*n = *n*256 + uint64(c)
		}
	}
	return x, canBeSuper(x) && string(superBlock(x)) == string(b)
}

// plainTx: whether the bytes are a transaction's, and which.
func plainTx(p []byte) ([]api.Put, bool) {
	if len(p) < 4 || p[0] != 0 || p[1] != 0 || p[2] != 0 || p[3] < 1 || p[3] > 64 || len(p) != 4+388*int(p[3]) {
		return nil, false
	}
	var out []api.Put
	for p = p[4:]; len(p) > 0; p = p[388:] {
		if p[0] > 127 {
			return nil, false
		}
		out = append(out, api.Put{Block: int(p[0])<<24 | int(p[1])<<16 | int(p[2])<<8 | int(p[3]), Data: p[4:388]})
	}
	return out, true
}

// plainly is the superblock, and the transactions that are there, in the chapter's words (P8.5).
func (d *plate) plainly(first, count int) (api.LogSuper, bool, []found) {
	super, ok := plainSuper(d.now(first))
	if other, there := plainSuper(d.now(first + 1)); there && (!ok || other.Generation > super.Generation) {
		super, ok = other, true
	}
	if !ok {
		return api.LogSuper{}, false, nil
	}
	var out []found
	ahead := api.LogEntry{Boot: super.AfterBoot, Serial: super.AfterSerial, Lsn: super.Lsn}
	position, all := super.Position, 0
	for {
		next, there := d.plainOne(first, count, position)
		all += next.head.Parts
		later := next.head.Boot > ahead.Boot || next.head.Boot == ahead.Boot && next.head.Serial > ahead.Serial
		if !there || next.head.Lsn != ahead.Lsn+1 || next.head.Boot > super.Boot || !later || all > count-2 {
			return super, true, out
		}
		out = append(out, next)
		ahead = next.head
		position += uint64(next.head.Parts)
	}
}

// plainOne is what stands at a Position, if its entries belong together and are a transaction's.
func (d *plate) plainOne(first, count int, position uint64) (found, bool) {
	var out found
	var p []byte
	for part := 0; part == 0 || part < out.head.Parts; part++ {
		x, ok := plainEntry(d.now(first + 2 + int((position+uint64(part))%uint64(count-2))))
		if part == 0 {
			out.head = x
		}
		if !ok || x.Position != position+uint64(part) || x.Boot != out.head.Boot || x.Serial != out.head.Serial ||
			x.Lsn != out.head.Lsn || x.Parts != out.head.Parts || x.Part != part {
			return found{}, false
		}
		p = append(p, x.Bytes...)
	}
	tx, ok := plainTx(p)
	out.tx = tx
	return out, ok
}

// opensPlainly: Open finds and writes just what the chapter's words say, and Trim of each transaction too (P8.5, P8.7).
func opensPlainly(t *testing.T, d *plate, first, count int) int {
	t.Helper()
	super, ok, l := d.plainly(first, count)
	if !ok {
		refused(t, "no superblock", d, first, count, api.ErrLog)
		return 0
	}
	for lsn := range len(l) + 1 {
		d := d.copied()
		j, told := opened(t, d, first, count)
		next := super
		next.Generation++
		next.Boot++
		wrote(t, d, "Open", superCalls(first, next))
		parts := 0
		for i, each := range l {
			if i >= len(told) || !sameTx(told[i], each.tx) {
				t.Fatalf("%d transactions, and %d are there", len(told), len(l))
			}
			parts += each.head.Parts
		}
		last := super.Lsn + uint64(len(l))
		if len(told) != len(l) {
			t.Fatalf("%d transactions, and %d are there", len(told), len(l))
		}
		stands(t, j, last, last, super.Lsn, count-2-parts, super.Boot+1)
		want(t, "Trim", j.Trim(super.Lsn+uint64(lsn)), api.OK)
		if lsn == 0 {
			wrote(t, d, "Trim", nil)
			continue
		}
		head := l[lsn-1].head
		next.Generation++
		next.Lsn, next.Position = head.Lsn, head.Position+uint64(head.Parts)
		next.AfterBoot, next.AfterSerial = head.Boot, head.Serial
		wrote(t, d, "Trim", superCalls(first, next))
		room := count - 2
		for _, each := range l[lsn:] {
			room -= each.head.Parts
		}
		stands(t, j, last, last, head.Lsn, room, super.Boot+1)
	}
	return len(l)
}

// superCalls is a superblock that is written and flushed.
func superCalls(first int, x api.LogSuper) []call {
	b := first
	if x.Generation%2 == 0 {
		b = first + 1
	}
	return []call{{'w', b, string(superBlock(x))}, {kind: 'f'}}
}

// wrote: the device has heard just these writes and flushes.
func wrote(t *testing.T, d *plate, name string, l []call) {
	t.Helper()
	if got, _ := d.heard(); !slices.Equal(got, l) {
		t.Fatalf("%s: wrote %x, want %x", name, got, l)
	}
}

// TestSupers: none, one and both superblocks, of unlike and of equal Generations (P8.5).
func TestSupers(t *testing.T) {
	texts := [][]byte{
		make([]byte, 384),
		superBlock(api.LogSuper{Generation: 1, Boot: 5, Lsn: 1}),
		superBlock(api.LogSuper{Generation: 2, Boot: 6, Lsn: 2}),
		superBlock(api.LogSuper{Generation: 2, Boot: 7, Lsn: 3}),
		superBlock(api.LogSuper{Generation: 255, Boot: 4, Lsn: 4}),
		superBlock(api.LogSuper{Generation: 256, Boot: 3, Lsn: 5}),
		superBlock(api.LogSuper{Generation: 0, Boot: 3, Lsn: 5}),
		superBlock(api.LogSuper{Generation: 3, Boot: 0, Lsn: 5}),
		superBlock(api.LogSuper{Generation: top + 1, Boot: 3}),
		entryBlock(someEntry()),
		superBlock(api.LogSuper{Generation: 9, Boot: 9})[:383],
	}
	for _, a := range texts {
		for _, b := range texts {
			d := newPlate(9)
			d.lay(1, a)
			d.lay(2, b)
			opensPlainly(t, d, 1, 8)
		}
	}
	d := newPlate(9)
	refused(t, "zeros", d, 1, 8, api.ErrLog)
	wrote(t, d, "Open", nil)
	d.lay(1, texts[2])
	d.lay(2, texts[3])
	j, _ := opened(t, d, 1, 8)
	stands(t, j, 2, 2, 2, 6, 7)
}

// TestNextSuper: a Generation or a Boot that would pass 2^62 is refused, ahead of all writing (P8.5, and 8.1).
func TestNextSuper(t *testing.T) {
	for _, c := range []struct {
		x api.LogSuper
		e api.Errno
	}{
		{api.LogSuper{Generation: top - 1, Boot: 1}, api.OK},
		{api.LogSuper{Generation: 1, Boot: top - 1}, api.OK},
		{api.LogSuper{Generation: top - 1, Boot: top - 1, Position: top, Lsn: top, AfterBoot: top, AfterSerial: top}, api.OK},
		{api.LogSuper{Generation: top, Boot: 1}, api.ErrFull},
		{api.LogSuper{Generation: 1, Boot: top}, api.ErrFull},
		{api.LogSuper{Generation: top, Boot: top}, api.ErrFull},
	} {
		d := newPlate(8)
		d.lay(0, superBlock(c.x))
		if c.e == api.OK {
			opensPlainly(t, d, 0, 8)
			continue
		}
		refused(t, "at 2^62", d, 0, 8, c.e)
		wrote(t, d, "Open", nil)
	}
}

// TestOpenFails: an error of the device at any call is told, and nothing is called behind it (P8.5).
func TestOpenFails(t *testing.T) {
	for _, n := range []int{0, 1, 2, 3} {
		whole := formatted(t, 10, 2, 8)
		j, _ := opened(t, whole, 2, 8)
		for i := range n {
			appends(t, j, puts(1, i), uint64(i+1))
		}
		try := whole.copied()
		opened(t, try, 2, 8)
		l, calls := try.heard()
		for at := range calls {
			d := whole.copied()
			d.until = at + 1
			refused(t, "a call fails", d, 2, 8, errBroken)
			got, made := d.heard()
			if made != at+1 || len(got) != max(0, at+1-(calls-len(l))) {
				t.Errorf("the call %d fails: %d calls, of which %d write", at, made, len(got))
			}
			d.until = 0
			if _, told := opened(t, d, 2, 8); len(told) != n {
				t.Errorf("behind an Open that failed: %d transactions", len(told))
			}
		}
	}
}

// shut is a plate some of whose blocks can not be read.
type shut struct {
	*plate
	block int
}

func (d shut) Read(b int) ([]byte, api.Errno) {
	if b == d.block {
		return nil, errBroken
	}
	return d.plate.Read(b)
}

// TestShutBlocks: a block that can not be read is an error if the reading comes to it, and else is not (P8.5).
func TestShutBlocks(t *testing.T) {
	for n := range 3 {
		whole := formatted(t, 12, 1, 9)
		j, _ := opened(t, whole, 1, 9)
		for i := range n {
			appends(t, j, puts(1, i), uint64(i+1))
		}
		for b := range 12 {
			d := shut{whole.copied(), b}
			if b >= 1 && b <= 3+2*n {
				refused(t, "shut", d, 1, 9, errBroken)
				wrote(t, d.plate, "Open", nil)
			} else {
				opened(t, d, 1, 9)
			}
		}
	}
	d := shut{newPlate(12), 5}
	refused(t, "shut", d, 1, 9, api.ErrLog)
}

// threeTxs is a journal with transactions of one, two and one puts from a Position on, of the Boots and Serials 2 4, 2 5, 3 1, behind 2 3.
func threeTxs(position uint64, count int) (*plate, [][]api.LogEntry) {
	d := newPlate(count + 3)
	d.lay(3, superBlock(api.LogSuper{Generation: 8, Boot: 3, Position: position, Lsn: 7, AfterBoot: 2, AfterSerial: 3}))
	l := [][]api.LogEntry{
		entriesOf(api.LogEntry{Boot: 2, Serial: 4, Position: position, Lsn: 8}, puts(1, 8)),
		entriesOf(api.LogEntry{Boot: 2, Serial: 5, Position: position + 2, Lsn: 9}, puts(2, 9)),
		entriesOf(api.LogEntry{Boot: 3, Serial: 1, Position: position + 5, Lsn: 10}, puts(1, 10)),
	}
	for _, each := range l {
		d.layEntries(2, count+1, each)
	}
	return d, l
}

// TestEachPartWrong: each part of each transaction is missing, or wrong in one field, in turn: those ahead are told, and no other (P8.5).
func TestEachPartWrong(t *testing.T) {
	wrong := []func(x *api.LogEntry){
		func(x *api.LogEntry) { *x = api.LogEntry{} },
		func(x *api.LogEntry) { x.Boot-- },
		func(x *api.LogEntry) { x.Boot++ },
		func(x *api.LogEntry) { x.Boot += 2 },
		func(x *api.LogEntry) { x.Serial-- },
		func(x *api.LogEntry) { x.Serial++ },
		func(x *api.LogEntry) { x.Lsn-- },
		func(x *api.LogEntry) { x.Lsn++ },
		func(x *api.LogEntry) { x.Part-- },
		func(x *api.LogEntry) { x.Part++ },
		func(x *api.LogEntry) { x.Parts-- },
		func(x *api.LogEntry) { x.Parts++ },
		func(x *api.LogEntry) { x.Position -= 8 },
		func(x *api.LogEntry) { x.Position += 8 },
		func(x *api.LogEntry) { x.Bytes = x.Bytes[1:] },
		func(x *api.LogEntry) { x.Bytes = x.Bytes[:len(x.Bytes)-1] },
		func(x *api.LogEntry) { x.Bytes = append([]byte{0}, x.Bytes[1:len(x.Bytes)-1]...) },
	}
	for _, position := range []uint64{8, 13, 8000, top - 7} {
		for at := range 3 {
			for part := range []int{2, 3, 2}[at] {
				for i, change := range wrong {
					d, l := threeTxs(position, 9)
					x := l[at][part]
					b := 4 + int(x.Position%8)
					change(&x)
					d.lay(b, entryBlock(x))
					if n := opensPlainly(t, d, 2, 10); n != at {
						t.Errorf("Position %d, transaction %d, part %d, change %d: %d transactions", position, at, part, i, n)
					}
				}
			}
		}
		d, _ := threeTxs(position, 9)
		if n := opensPlainly(t, d, 2, 10); n != 3 {
			t.Errorf("Position %d: %d transactions", position, n)
		}
	}
}

// TestWholeWrong: a transaction all of whose entries are of another Lsn, or of another round of the ring, is not there (P8.5).
func TestWholeWrong(t *testing.T) {
	for _, change := range []func(x *api.LogEntry){
		func(x *api.LogEntry) { x.Lsn-- },
		func(x *api.LogEntry) { x.Lsn++ },
		func(x *api.LogEntry) { x.Position -= 8 },
		func(x *api.LogEntry) { x.Position += 8 },
		func(x *api.LogEntry) { x.Position += 16 },
		func(x *api.LogEntry) { x.Boot++; x.Serial = 9; x.Lsn += 2 },
		func(x *api.LogEntry) { x.Boot += 2 },
		func(x *api.LogEntry) { x.Boot--; x.Serial = 9 },
		func(x *api.LogEntry) { x.Part++; x.Parts++ },
	} {
		for at := range 3 {
			d, l := threeTxs(11, 9)
			for _, x := range l[at] {
				b := 4 + int(x.Position%8)
				change(&x)
				d.lay(b, entryBlock(x))
			}
			if n := opensPlainly(t, d, 2, 10); n != at && at < 2 {
				t.Errorf("the transaction %d is wrong: %d are there", at, n)
			}
		}
	}
}

// TestOlderAndNewer: a transaction must be newer than the one ahead, the first than AfterBoot and AfterSerial, and its Boot not above the superblock's (P8.5).
func TestOlderAndNewer(t *testing.T) {
	numbers := []uint64{1, 2, 3, 4, top}
	for _, after := range numbers {
		for _, afterSerial := range numbers {
			for _, boot := range numbers {
				for _, serial := range numbers {
					for _, own := range []uint64{2, 3, top - 1} {
						d := newPlate(8)
						d.lay(0, superBlock(api.LogSuper{Generation: 1, Boot: own, AfterBoot: after, AfterSerial: afterSerial}))
						d.layEntries(0, 8, entriesOf(api.LogEntry{Boot: boot, Serial: serial, Lsn: 1}, puts(1, 1)))
						n := 0
						if boot <= own && (boot > after || boot == after && serial > afterSerial) {
							n = 1
						}
						if got := opensPlainly(t, d, 0, 8); got != n {
							t.Errorf("%d %d behind %d %d, Boot %d: %d transactions, want %d", boot, serial, after, afterSerial, own, got, n)
						}
						d = newPlate(8)
						d.lay(0, superBlock(api.LogSuper{Generation: 1, Boot: own}))
						d.layEntries(0, 8, entriesOf(api.LogEntry{Boot: after, Serial: afterSerial, Lsn: 1}, puts(1, 1)))
						d.layEntries(0, 8, entriesOf(api.LogEntry{Boot: boot, Serial: serial, Position: 2, Lsn: 2}, puts(1, 2)))
						if after > own {
							n = 0
						} else {
							n++
						}
						if got := opensPlainly(t, d, 0, 8); got != n {
							t.Errorf("%d %d behind %d %d, Boot %d: %d transactions, want %d", boot, serial, after, afterSerial, own, got, n)
						}
					}
				}
			}
		}
	}
}

// TestFullRing: transactions that together fill the ring are told, and one that would be more is not, nor is the first one told again (P8.5).
func TestFullRing(t *testing.T) {
	for _, c := range []struct {
		count, told int
		puts        []int
	}{{8, 3, []int{1, 1, 1}}, {8, 2, []int{2, 2}}, {7, 2, []int{1, 2}}, {7, 2, []int{1, 1, 1}}, {7, 1, []int{2, 2}}, {6, 2, []int{1, 1}}, {6, 1, []int{2, 2}}, {76, 1, []int{64}}, {75, 0, []int{64}}} {
		for _, position := range []uint64{0, 1, 5, 1000003} {
			d := newPlate(c.count)
			d.lay(0, superBlock(api.LogSuper{Generation: 1, Boot: 1, Position: position}))
			at := position
			for i, n := range c.puts {
				l := entriesOf(api.LogEntry{Boot: 1, Serial: uint64(i + 1), Position: at, Lsn: uint64(i + 1)}, puts(n, i))
				at += uint64(len(l))
				if int(at-position) <= c.count-2 {
					d.layEntries(0, c.count, l)
				} else {
					d.layEntries(0, c.count, l[:max(0, c.count-2-int(at-position)+len(l))])
				}
			}
			if got := opensPlainly(t, d, 0, c.count); got != c.told {
				t.Errorf("%d blocks, %v from %d on: %d transactions, want %d", c.count, c.puts, position, got, c.told)
			}
		}
	}
}

// TestOddPieces: a transaction's bytes may lie in entries in any pieces, also in more than it needs; Room tells the blocks that it lies in (P8.5, P8.8).
func TestOddPieces(t *testing.T) {
	p := txBytes(puts(1, 4))
	for _, sizes := range [][]int{{336, 56}, {56, 336}, {200, 192}, {1, 336, 55}, {100, 1, 291}, {98, 98, 98, 98}, {300, 90, 1, 1}} {
		d := newPlate(8)
		d.lay(0, superBlock(api.LogSuper{Generation: 1, Boot: 1}))
		at := 0
		for i, n := range sizes {
			d.layEntries(0, 8, []api.LogEntry{{Boot: 1, Serial: 1, Position: uint64(i), Lsn: 1, Part: i, Parts: len(sizes), Bytes: p[at : at+n]}})
			at += n
		}
		if n := opensPlainly(t, d, 0, 8); n != 1 {
			t.Errorf("pieces of %v: %d transactions", sizes, n)
		}
		j, _ := opened(t, d, 0, 8)
		stands(t, j, 1, 1, 0, 6-len(sizes), 2)
	}
	d := newPlate(102)
	d.lay(0, superBlock(api.LogSuper{Generation: 1, Boot: 1}))
	for i := range 100 {
		n := 3
		if i == 99 {
			n = 392 - 3*99
		}
		d.layEntries(0, 102, []api.LogEntry{{Boot: 1, Serial: 1, Position: uint64(i), Lsn: 1, Part: i, Parts: 100, Bytes: p[3*i : 3*i+n]}})
	}
	if n := opensPlainly(t, d, 0, 102); n != 1 {
		t.Errorf("100 pieces: %d transactions", n)
	}
}

// TestNumbersEnd: where a Position or an Lsn would pass 2^62, there is no further transaction (P8.1, P8.5).
func TestNumbersEnd(t *testing.T) {
	for _, c := range []struct {
		position, lsn uint64
		told          int
	}{{top - 1, 0, 1}, {top, 0, 0}, {top - 3, 0, 2}, {top - 2, 0, 1}, {0, top - 1, 1}, {0, top, 0}, {top - 1, top - 1, 1}} {
		d := newPlate(9)
		d.lay(0, superBlock(api.LogSuper{Generation: 1, Boot: 1, Position: c.position, Lsn: c.lsn}))
		for i := range 2 {
			d.layEntries(0, 8, entriesOf(api.LogEntry{Boot: 1, Serial: uint64(i + 1), Position: c.position + uint64(2*i), Lsn: c.lsn + uint64(i) + 1}, puts(1, i)))
		}
		j, told := opened(t, d, 0, 8)
		if len(told) != c.told {
			t.Errorf("from %d, %d on: %d transactions, want %d", c.position, c.lsn, len(told), c.told)
		}
		stands(t, j, c.lsn+uint64(c.told), c.lsn+uint64(c.told), c.lsn, 6-2*c.told, 2)
	}
}

// TestDrawnRings: rings of transactions of several times, with fields changed here and there, are read as the chapter's words say (P8.5).
func TestDrawnRings(t *testing.T) {
	dice := dice(8)
	told := make([]int, 8)
	for range 6000 {
		count := 6 + dice.below(12)
		d := newPlate(count + 1)
		super := api.LogSuper{
			Generation: uint64(1 + dice.below(4)), Boot: uint64(2 + dice.below(3)), Position: uint64(dice.below(40)),
			Lsn: uint64(dice.below(3)), AfterBoot: uint64(dice.below(3)), AfterSerial: uint64(dice.below(3)),
		}
		d.lay(dice.below(2), superBlock(super))
		if dice.below(2) == 0 {
			super.Generation += uint64(dice.below(2))
			d.lay(dice.below(2), superBlock(super))
		}
		for range 1 + dice.below(2) {
			drawRing(d, count, super, &dice)
		}
		told[opensPlainly(t, d, 0, count)]++
	}
	for n, times := range told[:6] {
		if times < 10 {
			t.Errorf("only %d rings with %d transactions", times, n)
		}
	}
}

// drawRing lays transactions behind a superblock, of which some entries are wrong.
func drawRing(d *plate, count int, super api.LogSuper, dice *dice) {
	at, lsn, boot, serial := super.Position, super.Lsn, super.AfterBoot, super.AfterSerial
	end := at + uint64(count-2+dice.below(3))
	for n := 0; n < 7 && at < end; n++ {
		lsn++
		serial++
		if dice.below(3) == 0 || boot == 0 {
			boot, serial = boot+1, uint64(1+dice.below(2))
		}
		head := api.LogEntry{Boot: boot, Serial: serial, Position: at, Lsn: lsn, Parts: 1}
		if dice.below(12) == 0 {
			drawWrong(&head, count, dice)
		}
		l := entriesOf(head, puts(1+dice.below(2), dice.below(50)))
		at += uint64(len(l))
		for _, x := range l {
			if dice.below(25) == 0 {
				drawWrong(&x, count, dice)
			}
			d.layEntries(0, count, []api.LogEntry{x})
		}
	}
}

// drawWrong changes a field, or none.
func drawWrong(x *api.LogEntry, count int, dice *dice) {
	by := uint64(1)
	if dice.below(2) == 0 {
		by = ^uint64(0)
	}
	switch dice.below(8) {
	case 0:
		x.Boot += by
	case 1:
		x.Serial += by
	case 2:
		x.Position += by * uint64(count-2)
	case 3:
		x.Lsn += by
	case 4:
		x.Part += int(by)
	case 5:
		x.Parts += int(by)
	case 6:
		x.Bytes = x.Bytes[:max(0, len(x.Bytes)-1)]
	}
}

// TestOpenAnew: each Open has the next Boot, and the next Generation in the other place (P8.5).
func TestOpenAnew(t *testing.T) {
	d := formatted(t, 8, 0, 8)
	for n := range uint64(9) {
		j, _, e := journal.Open(d, 0, 8)
		want(t, "Open", e, api.OK)
		stands(t, j, 0, 0, 0, 6, n+2)
		wrote(t, d, "Open", superCalls(0, api.LogSuper{Generation: n + 3, Boot: n + 2}))
	}
}
