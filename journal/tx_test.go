package journal_test

import (
	"bytes"
	"encoding/binary"
	"math"
	"testing"

	"granary/api"
	"granary/journal"
)

// isTx: Put and Get of the puts are as the chapter's words say.
func isTx(t *testing.T, l []api.Put) {
	t.Helper()
	p := txBytes(l)
	if got, e := journal.PutTx(l); e != api.OK || !bytes.Equal(got, p) {
		t.Errorf("PutTx of %d puts: %d bytes, error %d", len(l), len(got), e)
	}
	if got, e := journal.GetTx(p); e != api.OK || !sameTx(got, l) {
		t.Errorf("GetTx of %d puts: %d, error %d", len(l), len(got), e)
	}
}

// isNoTx: the puts are no transaction.
func isNoTx(t *testing.T, l []api.Put) {
	t.Helper()
	if got, e := journal.PutTx(l); e != api.ErrTx || got != nil {
		t.Errorf("PutTx of %d puts: %d bytes, error %d", len(l), len(got), e)
	}
}

// getsNoTx: the bytes are no transaction's.
func getsNoTx(t *testing.T, p []byte) {
	t.Helper()
	if got, e := journal.GetTx(p); e != api.ErrTx || got != nil {
		t.Errorf("GetTx of %d bytes: %d puts, error %d", len(p), len(got), e)
	}
}

// TestTxCounts: 1 to 64 puts, no fewer and no more (P8.2, P8.12).
func TestTxCounts(t *testing.T) {
	for n := 1; n <= 64; n++ {
		isTx(t, puts(n, n))
	}
	for _, n := range []int{0, 65, 66, 128, 1000} {
		isNoTx(t, puts(n, 1))
		getsNoTx(t, txBytes(puts(n, 1)))
	}
	isNoTx(t, []api.Put{})
}

// TestTxBlocks: a Block is 0 to 2^31 - 1, at each place of the list (P8.2, P8.12).
func TestTxBlocks(t *testing.T) {
	for n := 1; n <= 3; n++ {
		for i := range n {
			for _, block := range []int{0, 1, 255, 256, 1<<31 - 2, 1<<31 - 1} {
				l := puts(n, 1)
				l[i].Block = block
				isTx(t, l)
			}
			for _, block := range []int{-1, -2, math.MinInt, -1 << 32, 1 << 31, 1<<31 + 1, 1 << 32, 1<<32 + 1, math.MaxInt} {
				l := puts(n, 1)
				l[i].Block = block
				isNoTx(t, l)
			}
			for _, block := range []int{1 << 31, 1<<31 + 1, 1<<32 - 1} {
				l := puts(n, 1)
				l[i].Block = block
				getsNoTx(t, txBytes(l))
			}
		}
	}
	isTx(t, append(puts(1, 1), puts(1, 1)...))
}

// TestTxData: Data has 384 bytes, at each place of the list (P8.2).
func TestTxData(t *testing.T) {
	for n := 1; n <= 3; n++ {
		for i := range n {
			for _, size := range []int{0, 1, 383, 385, 768} {
				l := puts(n, 1)
				l[i].Data = make([]byte, size)
				isNoTx(t, l)
				getsNoTx(t, txBytes(l))
			}
			l := puts(n, 1)
			l[i].Data = nil
			isNoTx(t, l)
		}
	}
	odd := puts(2, 1)
	odd[0].Data, odd[1].Data = make([]byte, 383), make([]byte, 385)
	isNoTx(t, odd)
}

// TestTxCut: bytes that are cut short anywhere, or have more behind them, are no transaction's (P8.2).
func TestTxCut(t *testing.T) {
	for _, n := range []int{1, 2, 64} {
		p := txBytes(puts(n, 3))
		for cut := range len(p) {
			getsNoTx(t, p[:cut])
		}
		for _, more := range [][]byte{{0}, {1}, make([]byte, 4), make([]byte, 388), p} {
			getsNoTx(t, append(bytes.Clone(p), more...))
		}
	}
	getsNoTx(t, nil)
}

// TestTxChanged: each byte is changed; where Get answers OK, Put of what it tells is those bytes (P8.2, P8.12).
func TestTxChanged(t *testing.T) {
	p := txBytes(puts(2, 3))
	for at := range p {
		for change := range 255 {
			p[at] ^= byte(change + 1)
			got, e := journal.GetTx(p)
			count := at < 4
			high := (at == 4 || at == 392) && p[at] >= 128
			if count || high {
				if e != api.ErrTx || got != nil {
					t.Errorf("GetTx, byte %d changed: %d puts, error %d", at, len(got), e)
				}
			} else if again, why := journal.PutTx(got); e != api.OK || why != api.OK || !bytes.Equal(again, p) {
				t.Errorf("GetTx, byte %d changed: error %d, and Put: error %d", at, e, why)
			}
			p[at] ^= byte(change + 1)
		}
	}
	for _, n := range []uint32{0, 1, 3, 65, 1 << 16, 1 << 31, 1<<32 - 1, 1<<32 - 2} {
		getsNoTx(t, append(binary.BigEndian.AppendUint32(nil, n), p[4:]...))
	}
}

// TestNeed: the bytes by the entry, rounded up (P8.2).
func TestNeed(t *testing.T) {
	for n := 1; n <= 64; n++ {
		want := 0
		for left := 4 + n*388; left > 0; left -= 336 {
			want++
		}
		if got := journal.Need(n); got != want {
			t.Errorf("Need(%d): %d, want %d", n, got, want)
		}
	}
	for _, c := range [][2]int{
		{1, 2}, {2, 3}, {64, 74}, {0, 0}, {-1, 0}, {65, 0}, {66, 0}, {1 << 32, 0}, {1<<32 + 1, 0}, {math.MaxInt, 0}, {math.MinInt, 0}, {math.MinInt + 1, 0},
	} {
		if got := journal.Need(c[0]); got != c[1] {
			t.Errorf("Need(%d): %d, want %d", c[0], got, c[1])
		}
	}
}
