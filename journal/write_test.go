package journal_test

import (
	"testing"

	"granary/api"
	"granary/journal"
)

// TestExamples: those of the chapter (P8.2, P8.6 to P8.9).
func TestExamples(t *testing.T) {
	d := formatted(t, 8, 0, 8)
	j, _ := opened(t, d, 0, 8)
	stands(t, j, 0, 0, 0, 6, 2)
	appends(t, j, puts(1, 1), 1)
	stands(t, j, 1, 0, 0, 4, 2)
	appends(t, j, puts(1, 2), 2)
	refuses(t, j, puts(2, 3), api.ErrFull)
	want(t, "Sync", j.Sync(), api.OK)
	want(t, "Trim(1)", j.Trim(1), api.OK)
	stands(t, j, 2, 2, 1, 4, 2)
	want(t, "Trim(3)", j.Trim(3), api.ErrArg)

	d = formatted(t, 8, 0, 8)
	j, _ = opened(t, d, 0, 8)
	appends(t, j, puts(1, 1), 1)
	appends(t, j, puts(1, 2), 2)
	for b := range 8 {
		keep := 0
		if b == 4 || b == 5 {
			keep = 1
		}
		d.keep(b, keep)
	}
	j, told := opened(t, d, 0, 8)
	stands(t, j, 0, 0, 0, 6, 3)
	if len(told) != 0 {
		t.Errorf("%d transactions", len(told))
	}
	appends(t, j, puts(1, 3), 1)
	want(t, "Sync", j.Sync(), api.OK)
	d.crash(new(dice))
	if _, told := opened(t, d, 0, 8); !sameTxs(told, [][]api.Put{puts(1, 3)}) {
		t.Errorf("%d transactions", len(told))
	}
}

// txCalls is the writes of a transaction.
func txCalls(first, count int, head api.LogEntry, tx []api.Put) []call {
	var out []call
	for _, x := range entriesOf(head, tx) {
		out = append(out, call{'w', first + 2 + int(x.Position%uint64(count-2)), string(entryBlock(x))})
	}
	return out
}

// TestAppendWrites: entry by entry, behind the last one, round the ring; nothing is read or flushed (P8.3, P8.6).
func TestAppendWrites(t *testing.T) {
	for _, count := range []int{76, 77, 100, 149} {
		d := formatted(t, count+2, 1, count)
		j, _ := opened(t, d, 1, count)
		d.heard()
		at := uint64(0)
		for n := 1; n <= 64; n++ {
			tx := puts(n, n)
			appends(t, j, tx, uint64(n))
			l, calls := d.heard()
			head := api.LogEntry{Boot: 2, Serial: uint64(n), Position: at, Lsn: uint64(n)}
			if w := txCalls(1, count, head, tx); calls != journal.Need(n) || len(w) != calls || len(l) != calls {
				t.Fatalf("%d puts: %d calls", n, calls)
			} else {
				for i := range w {
					if l[i] != w[i] {
						t.Fatalf("%d puts, part %d: wrote %x, want %x", n, i, l[i], w[i])
					}
				}
			}
			at += uint64(journal.Need(n))
			stands(t, j, uint64(n), uint64(n-1), uint64(n-1), count-2-journal.Need(n), 2)
			want(t, "Sync", j.Sync(), api.OK)
			want(t, "Trim", j.Trim(uint64(n)), api.OK)
			d.heard()
		}
	}
}

// TestWrongTx: ErrTx comes first, and nothing is written (P8.6).
func TestWrongTx(t *testing.T) {
	short, low := puts(2, 1), puts(2, 1)
	short[1].Data = short[1].Data[:383]
	low[0].Block = -1
	for _, count := range []int{6, 100} {
		d := formatted(t, count, 0, count)
		j, _ := opened(t, d, 0, count)
		d.heard()
		for _, tx := range [][]api.Put{nil, {}, puts(65, 1), short, low, make([]api.Put, 64)} {
			refuses(t, j, tx, api.ErrTx)
		}
		wrote(t, d, "Append", nil)
		stands(t, j, 0, 0, 0, count-2, 2)
		appends(t, j, puts(1, 1), 1)
		head := api.LogEntry{Boot: 2, Serial: 1, Lsn: 1}
		wrote(t, d, "Append", txCalls(0, count, head, puts(1, 1)))
	}
}

// TestNoRoom: what needs more than there is room for is refused, and nothing is written; what needs just that is not (P8.6, P8.11).
func TestNoRoom(t *testing.T) {
	for count := 6; count < 90; count++ {
		for n := 1; n <= 64; n++ {
			d := formatted(t, count, 0, count)
			j, _ := opened(t, d, 0, count)
			d.heard()
			if journal.Need(n) <= count-2 {
				appends(t, j, puts(n, 1), 1)
				stands(t, j, 1, 0, 0, count-2-journal.Need(n), 2)
				continue
			}
			refuses(t, j, puts(n, 1), api.ErrFull)
			wrote(t, d, "Append", nil)
			stands(t, j, 0, 0, 0, count-2, 2)
		}
	}
	d := formatted(t, 6, 0, 6)
	j, _ := opened(t, d, 0, 6)
	appends(t, j, puts(1, 1), 1)
	appends(t, j, puts(1, 2), 2)
	stands(t, j, 2, 0, 0, 0, 2)
	refuses(t, j, puts(1, 3), api.ErrFull)
	want(t, "Sync", j.Sync(), api.OK)
	refuses(t, j, puts(1, 3), api.ErrFull)
	want(t, "Trim", j.Trim(1), api.OK)
	refuses(t, j, puts(2, 3), api.ErrFull)
	d.heard()
	appends(t, j, puts(1, 3), 3)
	wrote(t, d, "Append", txCalls(0, 6, api.LogEntry{Boot: 2, Serial: 3, Position: 4, Lsn: 3}, puts(1, 3)))
	stands(t, j, 3, 2, 1, 0, 2)
}

// TestAtTheTop: a number that would pass 2^62 is refused with ErrFull, ahead of all writing; one that comes up to it is not (P8.6, P8.7, and 8.1).
func TestAtTheTop(t *testing.T) {
	for _, c := range []struct {
		position, lsn uint64
		append, trim  api.Errno
	}{
		{0, top - 2, api.OK, api.OK},
		{0, top - 1, api.OK, api.OK},
		{0, top, api.ErrFull, api.OK},
		{top - 3, 0, api.OK, api.OK},
		{top - 2, 0, api.OK, api.OK},
		{top - 1, 0, api.OK, api.ErrFull},
		{top, 0, api.ErrFull, api.OK},
		{top - 2, top - 1, api.OK, api.OK},
	} {
		d := newPlate(8)
		d.lay(1, superBlock(api.LogSuper{Generation: 4, Boot: 4, Position: c.position, Lsn: c.lsn}))
		j, _ := opened(t, d, 0, 8)
		d.heard()
		if c.append != api.OK {
			refuses(t, j, puts(1, 1), c.append)
			refuses(t, j, puts(0, 1), api.ErrTx)
			wrote(t, d, "Append", nil)
			stands(t, j, c.lsn, c.lsn, c.lsn, 6, 5)
			continue
		}
		appends(t, j, puts(1, 1), c.lsn+1)
		wrote(t, d, "Append", txCalls(0, 8, api.LogEntry{Boot: 5, Serial: 1, Position: c.position, Lsn: c.lsn + 1}, puts(1, 1)))
		want(t, "Sync", j.Sync(), api.OK)
		d.heard()
		want(t, "Trim", j.Trim(c.lsn+1), c.trim)
		if c.trim != api.OK {
			wrote(t, d, "Trim", nil)
			stands(t, j, c.lsn+1, c.lsn+1, c.lsn, 4, 5)
		}
		if j, told := opened(t, d, 0, 8); c.trim != api.OK && (!sameTxs(told, [][]api.Put{puts(1, 1)}) || j.Last() != c.lsn+1) {
			t.Errorf("%d transactions", len(told))
		}
	}
}

// TestLastGeneration: behind the Generation 2^62 there is none for Trim (P8.7, and 8.1).
func TestLastGeneration(t *testing.T) {
	d := newPlate(8)
	d.lay(1, superBlock(api.LogSuper{Generation: top - 2, Boot: 1}))
	j, _ := opened(t, d, 0, 8)
	appends(t, j, puts(1, 1), 1)
	appends(t, j, puts(1, 2), 2)
	want(t, "Sync", j.Sync(), api.OK)
	d.heard()
	want(t, "Trim", j.Trim(1), api.OK)
	wrote(t, d, "Trim", superCalls(0, api.LogSuper{Generation: top, Boot: 2, Position: 2, Lsn: 1, AfterBoot: 2, AfterSerial: 1}))
	want(t, "Trim", j.Trim(2), api.ErrFull)
	want(t, "Trim", j.Trim(3), api.ErrArg)
	want(t, "Trim", j.Trim(0), api.ErrArg)
	want(t, "Trim", j.Trim(1), api.OK)
	wrote(t, d, "Trim", nil)
	stands(t, j, 2, 2, 1, 4, 2)
	appends(t, j, puts(1, 3), 3)
	refused(t, "at 2^62", d, 0, 8, api.ErrFull)
}

// TestAppendFails: at an error of the device nothing is appended; the next one has the same Lsn and place, and the next Serial (P8.6).
func TestAppendFails(t *testing.T) {
	for _, n := range []int{1, 2, 5} {
		for at := range journal.Need(n) {
			d := formatted(t, 30, 0, 30)
			j, _ := opened(t, d, 0, 30)
			appends(t, j, puts(1, 1), 1)
			d.heard()
			tx := puts(n, 2)
			d.until = at + 1
			refuses(t, j, tx, errBroken)
			head := api.LogEntry{Boot: 2, Serial: 2, Position: 2, Lsn: 2}
			wrote(t, d, "Append", txCalls(0, 30, head, tx)[:at+1])
			stands(t, j, 1, 0, 0, 26, 2)
			refuses(t, j, nil, api.ErrTx)
			refuses(t, j, puts(64, 1), api.ErrFull)
			head.Serial = 3
			appends(t, j, puts(2, 3), 2)
			wrote(t, d, "Append", txCalls(0, 30, head, puts(2, 3)))
			stands(t, j, 2, 0, 0, 23, 2)
			if _, told := opened(t, d, 0, 30); !sameTxs(told, [][]api.Put{puts(1, 1), puts(2, 3)}) {
				t.Errorf("%d puts, the write %d fails: %d transactions", n, at, len(told))
			}
		}
	}
}

// TestSync: the device's flush, and what it answers (P8.7).
func TestSync(t *testing.T) {
	d := formatted(t, 12, 0, 12)
	j, _ := opened(t, d, 0, 12)
	appends(t, j, puts(1, 1), 1)
	d.heard()
	want(t, "Sync", j.Sync(), api.OK)
	wrote(t, d, "Sync", []call{{kind: 'f'}})
	stands(t, j, 1, 1, 0, 8, 2)
	appends(t, j, puts(1, 2), 2)
	d.heard()
	d.until = 1
	want(t, "Sync", j.Sync(), errBroken)
	wrote(t, d, "Sync", []call{{kind: 'f'}})
	stands(t, j, 2, 1, 0, 6, 2)
	want(t, "Sync", j.Sync(), api.OK)
	stands(t, j, 2, 2, 0, 6, 2)
	want(t, "Sync", j.Sync(), api.OK)
	stands(t, j, 2, 2, 0, 6, 2)
}

// TestTrimBounds: from Trimmed to Synced (P8.7).
func TestTrimBounds(t *testing.T) {
	d := formatted(t, 30, 0, 30)
	j, _ := opened(t, d, 0, 30)
	want(t, "Trim(0)", j.Trim(0), api.OK)
	want(t, "Trim(1)", j.Trim(1), api.ErrArg)
	for n := 1; n <= 5; n++ {
		appends(t, j, puts(1, n), uint64(n))
	}
	want(t, "Trim(1)", j.Trim(1), api.ErrArg)
	want(t, "Sync", j.Sync(), api.OK)
	appends(t, j, puts(1, 6), 6)
	d.heard()
	for _, lsn := range []uint64{6, 7, 1 << 63, 1<<64 - 1} {
		want(t, "Trim above", j.Trim(lsn), api.ErrArg)
	}
	want(t, "Trim(0)", j.Trim(0), api.OK)
	wrote(t, d, "Trim", nil)
	stands(t, j, 6, 5, 0, 16, 2)
	want(t, "Trim(2)", j.Trim(2), api.OK)
	wrote(t, d, "Trim", superCalls(0, api.LogSuper{Generation: 4, Boot: 2, Position: 4, Lsn: 2, AfterBoot: 2, AfterSerial: 2}))
	stands(t, j, 6, 6, 2, 20, 2)
	for _, lsn := range []uint64{0, 1, 7} {
		want(t, "Trim outside", j.Trim(lsn), api.ErrArg)
	}
	want(t, "Trim(2)", j.Trim(2), api.OK)
	wrote(t, d, "Trim", nil)
	want(t, "Trim(6)", j.Trim(6), api.OK)
	wrote(t, d, "Trim", superCalls(0, api.LogSuper{Generation: 5, Boot: 2, Position: 12, Lsn: 6, AfterBoot: 2, AfterSerial: 6}))
	stands(t, j, 6, 6, 6, 28, 2)
	want(t, "Trim(5)", j.Trim(5), api.ErrArg)
	want(t, "Trim(6)", j.Trim(6), api.OK)
}

// TestTrimFails: behind an error nothing is trimmed, nor synced by it, but the next Generation is used up (P8.7).
func TestTrimFails(t *testing.T) {
	for at := 1; at <= 2; at++ {
		d := formatted(t, 30, 0, 30)
		j, _ := opened(t, d, 0, 30)
		for n := 1; n <= 3; n++ {
			appends(t, j, puts(1, n), uint64(n))
		}
		want(t, "Sync", j.Sync(), api.OK)
		appends(t, j, puts(1, 4), 4)
		d.heard()
		for n := range uint64(3) {
			d.until = at
			want(t, "Trim", j.Trim(2), errBroken)
			wrote(t, d, "Trim", superCalls(0, api.LogSuper{Generation: 4 + n, Boot: 2, Position: 4, Lsn: 2, AfterBoot: 2, AfterSerial: 2})[:at])
			stands(t, j, 4, 3, 0, 20, 2)
		}
		want(t, "Trim", j.Trim(4), api.ErrArg)
		want(t, "Trim", j.Trim(1), api.OK)
		wrote(t, d, "Trim", superCalls(0, api.LogSuper{Generation: 7, Boot: 2, Position: 2, Lsn: 1, AfterBoot: 2, AfterSerial: 1}))
		stands(t, j, 4, 4, 1, 22, 2)
	}
}

// TestSerials: from 1 on, at each Append that comes so far as to write, and anew behind each Open (P8.6).
func TestSerials(t *testing.T) {
	d := formatted(t, 40, 0, 40)
	j, _ := opened(t, d, 0, 40)
	appends(t, j, puts(1, 1), 1)
	refuses(t, j, nil, api.ErrTx)
	refuses(t, j, puts(64, 1), api.ErrFull)
	d.until = 1
	refuses(t, j, puts(1, 2), errBroken)
	d.heard()
	appends(t, j, puts(1, 2), 2)
	wrote(t, d, "Append", txCalls(0, 40, api.LogEntry{Boot: 2, Serial: 3, Position: 2, Lsn: 2}, puts(1, 2)))
	want(t, "Sync", j.Sync(), api.OK)
	want(t, "Trim", j.Trim(1), api.OK)
	j, _ = opened(t, d, 0, 40)
	d.heard()
	appends(t, j, puts(1, 3), 3)
	wrote(t, d, "Append", txCalls(0, 40, api.LogEntry{Boot: 3, Serial: 1, Position: 4, Lsn: 3}, puts(1, 3)))
	want(t, "Sync", j.Sync(), api.OK)
	d.heard()
	want(t, "Trim", j.Trim(2), api.OK)
	wrote(t, d, "Trim", superCalls(0, api.LogSuper{Generation: 6, Boot: 3, Position: 4, Lsn: 2, AfterBoot: 2, AfterSerial: 3}))
}

// TestNil: what there is no journal for, and one that was never opened likewise (P8.8).
func TestNil(t *testing.T) {
	for _, j := range []*journal.Journal{nil, {}} {
		for _, tx := range [][]api.Put{nil, puts(1, 1), puts(65, 1)} {
			refuses(t, j, tx, api.ErrNone)
		}
		want(t, "Sync", j.Sync(), api.ErrNone)
		for _, lsn := range []uint64{0, 1, 1<<64 - 1} {
			want(t, "Trim", j.Trim(lsn), api.ErrNone)
		}
		stands(t, j, 0, 0, 0, 0, 0)
	}
}
