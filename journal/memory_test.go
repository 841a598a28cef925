package journal_test

import (
	"bytes"
	"slices"
	"testing"

	"granary/api"
	"granary/journal"
)

// spare is the bytes with room behind them that is full of x.
func spare(p []byte) []byte {
	out := append(bytes.Clone(p), bytes.Repeat([]byte{'x'}, 500)...)
	return out[:len(p)]
}

// spared is puts with room behind the list and behind each Data.
func spared(l []api.Put) []api.Put {
	out := append(slices.Clone(l), make([]api.Put, 70)...)
	for i := range out {
		out[i].Data = spare(out[i].Data)
	}
	return out[:len(l)]
}

// sameSpare: all bytes, the spare room too, are as spare has made them.
func sameSpare(t *testing.T, name string, p, q []byte) {
	t.Helper()
	if !bytes.Equal(p[:cap(p)], q[:cap(q)]) {
		t.Errorf("%s: the bytes that were handed in are others", name)
	}
}

// TestHandedIn: nothing that is handed in is changed, its spare room neither (rule 3).
func TestHandedIn(t *testing.T) {
	x := someEntry()
	x.Bytes = spare(x.Bytes)
	kept := bytes.Clone(x.Bytes[:cap(x.Bytes)])
	journal.PutEntry(x)
	sameSpare(t, "PutEntry", x.Bytes, kept)
	for _, p := range [][]byte{entryBlock(someEntry()), superBlock(someSuper()), txBytes(puts(3, 1)), txBytes(puts(64, 1)), nil} {
		q := spare(p)
		kept := bytes.Clone(q[:cap(q)])
		journal.GetEntry(q)
		journal.GetSuper(q)
		journal.GetTx(q)
		sameSpare(t, "Get", q, kept)
	}
	d := formatted(t, 100, 0, 100)
	j, _ := opened(t, d, 0, 100)
	for _, n := range []int{1, 2, 5, 64, 65} {
		l := spared(puts(n, 1))
		whole := l[:cap(l)]
		before := slices.Clone(whole)
		var datas [][]byte
		for _, each := range whole {
			datas = append(datas, bytes.Clone(each.Data[:cap(each.Data)]))
		}
		journal.PutTx(l)
		j.Append(l)
		for i, each := range whole {
			if each.Block != before[i].Block || len(each.Data) != len(before[i].Data) {
				t.Errorf("the put %d is another", i)
			}
			sameSpare(t, "Append", each.Data, datas[i])
		}
	}
}

// hoard is a plate that keeps the very lists that it is handed, and those that it answers.
type hoard struct {
	*plate
	got, was [][]byte
	answered [][]byte
}

func (d *hoard) Write(b int, p []byte) api.Errno {
	d.got, d.was = append(d.got, p), append(d.was, bytes.Clone(p))
	return d.plate.Write(b, p)
}

func (d *hoard) Read(b int) ([]byte, api.Errno) {
	p, e := d.plate.Read(b)
	p = spare(p)
	d.answered = append(d.answered, p)
	return p, e
}

// TestNotKept: what is handed in may be written over at once, what the device was handed is not changed behind, and what it answered is not kept (rule 3).
func TestNotKept(t *testing.T) {
	d := &hoard{plate: newPlate(20)}
	want(t, "Format", journal.Format(d, 0, 20), api.OK)
	j, _ := opened(t, d, 0, 20)
	var all [][]api.Put
	for n := 1; n <= 4; n++ {
		tx := spared(puts(n, n))
		all = append(all, puts(n, n))
		appends(t, j, tx, uint64(n))
		for _, each := range tx {
			spoil(each.Data, '!')
		}
		spoil(tx, api.Put{Block: 77, Data: []byte("!")})
	}
	want(t, "Sync", j.Sync(), api.OK)
	for i := range d.got {
		if !bytes.Equal(d.got[i], d.was[i]) {
			t.Errorf("the write %d was changed behind", i)
		}
		spoil(d.got[i], '?')
	}
	j, told := opened(t, d, 0, 20)
	for _, p := range d.answered {
		spoil(p, '?')
	}
	if !sameTxs(told, all) {
		t.Errorf("Open: %d transactions", len(told))
	}
	want(t, "Trim", j.Trim(2), api.OK)
	if _, told := opened(t, d, 0, 20); !sameTxs(told, all[2:]) {
		t.Errorf("Open: %d transactions", len(told))
	}
}

// TestNewMemory: answers share nothing with arguments, with each other, or with what is kept (rule 3).
func TestNewMemory(t *testing.T) {
	x := someEntry()
	b, _ := journal.PutEntry(x)
	again, _ := journal.PutEntry(x)
	spoil(b, '!')
	if !bytes.Equal(again, entryBlock(x)) || !sameEntry(x, someEntry()) {
		t.Errorf("PutEntry shares its bytes")
	}
	y, _ := journal.GetEntry(again)
	z, _ := journal.GetEntry(again)
	spoil(y.Bytes, '!')
	if !sameEntry(z, x) || !bytes.Equal(again, entryBlock(x)) {
		t.Errorf("GetEntry shares its bytes")
	}
	spoil(again, '?')
	if !sameEntry(z, x) {
		t.Errorf("GetEntry keeps its argument")
	}
	s, _ := journal.PutSuper(someSuper())
	r, _ := journal.PutSuper(someSuper())
	spoil(s, '!')
	if !bytes.Equal(r, superBlock(someSuper())) {
		t.Errorf("PutSuper shares its bytes")
	}
	p, _ := journal.PutTx(puts(3, 1))
	q, _ := journal.PutTx(puts(3, 1))
	spoil(p, '!')
	l, _ := journal.GetTx(q)
	m, _ := journal.GetTx(q)
	apart(t, "GetTx", [][]api.Put{l, m})
	if !sameTx(m, puts(3, 1)) || !bytes.Equal(q, txBytes(puts(3, 1))) {
		t.Errorf("GetTx shares its puts")
	}
	spoil(q, '?')
	if !sameTx(m, puts(3, 1)) {
		t.Errorf("GetTx keeps its argument")
	}
}

// apart: each list of the transactions but the last one can be written over, its spare room too, and the rest stays as it was.
func apart(t *testing.T, name string, told [][]api.Put) {
	t.Helper()
	for i, tx := range told[:len(told)-1] {
		rest := make([][]api.Put, len(told))
		for k := i; k < len(told); k++ {
			rest[k] = deep(told[k])
		}
		for n := range tx {
			spoil(tx[n].Data, byte('!'))
			for k := n + 1; k < len(tx); k++ {
				if !bytes.Equal(tx[k].Data, rest[i][k].Data) {
					t.Errorf("%s: the puts %d and %d of the transaction %d share bytes", name, n, k, i)
				}
			}
		}
		spoil(tx, api.Put{})
		for k := i + 1; k < len(told); k++ {
			if !sameTx(told[k], rest[k]) {
				t.Errorf("%s: the transactions %d and %d share something", name, i, k)
			}
		}
	}
}

// deep is a copy of a transaction, bytes and all.
func deep(tx []api.Put) []api.Put {
	out := slices.Clone(tx)
	for i := range out {
		out[i].Data = bytes.Clone(out[i].Data)
	}
	return out
}

// TestToldMemory: the transactions that Open tells share nothing with each other, or with what the journal keeps (rule 3).
func TestToldMemory(t *testing.T) {
	d := formatted(t, 40, 0, 40)
	j, _ := opened(t, d, 0, 40)
	var all [][]api.Put
	for n := 1; n <= 4; n++ {
		all = append(all, puts(n, n))
		appends(t, j, all[n-1], uint64(n))
	}
	j, told := opened(t, d, 0, 40)
	apart(t, "Open", told)
	if !sameTx(told[3], all[3]) {
		t.Errorf("the last transaction is another")
	}
	spoil(told, nil)
	stands(t, j, 4, 4, 0, 38-2-3-4-5, 3)
	want(t, "Trim", j.Trim(1), api.OK)
	if _, told := opened(t, d, 0, 40); !sameTxs(told, all[1:]) {
		t.Errorf("%d transactions", len(told))
	}
}

// TestAskingChanges: what only asks, and what is refused, changes nothing (rules 2 and 5).
func TestAskingChanges(t *testing.T) {
	d := formatted(t, 12, 0, 12)
	j, _ := opened(t, d, 0, 12)
	appends(t, j, puts(2, 1), 1)
	want(t, "Sync", j.Sync(), api.OK)
	appends(t, j, puts(1, 2), 2)
	d.heard()
	for range 3 {
		refuses(t, j, nil, api.ErrTx)
		refuses(t, j, puts(9, 1), api.ErrFull)
		want(t, "Trim", j.Trim(2), api.ErrArg)
		want(t, "Trim", j.Trim(0), api.OK)
		stands(t, j, 2, 1, 0, 5, 2)
	}
	wrote(t, d, "asking", nil)
	if _, n := d.heard(); n != 0 {
		t.Errorf("%d calls", n)
	}
	appends(t, j, puts(1, 3), 3)
	wrote(t, d, "Append", txCalls(0, 12, api.LogEntry{Boot: 2, Serial: 3, Position: 5, Lsn: 3}, puts(1, 3)))
}
