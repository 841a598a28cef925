package arena_test

import (
	"bytes"
	"math"
	"slices"
	"strings"
	"testing"

	"granary/api"
	"granary/arena"
)

// chunks is a list of bytes.
func chunks(l ...string) [][]byte {
	var out [][]byte
	for _, c := range l {
		out = append(out, []byte(c))
	}
	return out
}

// sameArena: the stamp and all chunks are the same.
func sameArena(a, b api.Arena) bool {
	return a.Stamp == b.Stamp && slices.EqualFunc(a.Chunks, b.Chunks, bytes.Equal)
}

// isArena: Put and Get of it are as the chapter's words say.
func isArena(t *testing.T, stamp uint64, l ...string) {
	t.Helper()
	x, b := api.Arena{Stamp: stamp, Chunks: chunks(l...)}, laid(stamp, l...)
	if got, e := arena.PutBlock(x); e != api.OK || !bytes.Equal(got, b) {
		t.Errorf("PutBlock of %d, %q: %x, error %d, want %x", stamp, l, got, e, b)
	}
	if got, e := arena.GetBlock(b); e != api.OK || !sameArena(got, x) {
		t.Errorf("GetBlock of %x: %+v, error %d, want %+v", b, got, e, x)
	}
}

// isNoArena: it can't be put, nor got.
func isNoArena(t *testing.T, stamp uint64, l ...string) {
	t.Helper()
	putsNone(t, stamp, l...)
	getsNone(t, laid(stamp, l...))
}

// putsNone: it can't be put.
func putsNone(t *testing.T, stamp uint64, l ...string) {
	t.Helper()
	if got, e := arena.PutBlock(api.Arena{Stamp: stamp, Chunks: chunks(l...)}); e != api.ErrArena || got != nil {
		t.Errorf("PutBlock of %d, %q: %x, error %d", stamp, l, got, e)
	}
}

// getsNone: the bytes are no arena's block.
func getsNone(t *testing.T, b []byte) {
	t.Helper()
	if got, e := arena.GetBlock(b); e != api.ErrArena || got.Stamp != 0 || got.Chunks != nil {
		t.Errorf("GetBlock of %x: %+v, error %d", b, got, e)
	}
}

// TestStamps: the stamp at its ends, byte by byte (P16.1).
func TestStamps(t *testing.T) {
	for _, n := range []uint64{1, 2, 255, 256, 0x0102030405060708, 0x3837363534333231, top - 1, top} {
		isArena(t, n, "a", "bc")
	}
	for _, n := range []uint64{0, top + 1, 1 << 63, math.MaxUint64} {
		isNoArena(t, n, "a", "bc")
	}
}

// TestBlockBytes: an arena's block as it is written out (P16.1).
func TestBlockBytes(t *testing.T) {
	b, e := arena.PutBlock(api.Arena{Stamp: 0x0102030405060708, Chunks: chunks("xy", text(259, 1), "z")})
	want(t, "PutBlock", e, api.OK)
	byHand := "AREN\x01\x02\x03\x04\x05\x06\x07\x08" + "\x00\x02xy" + "\x01\x03" + text(259, 1) + "\x00\x01z"
	byHand += strings.Repeat("\x00", 384-len(byHand))
	if string(b) != byHand || len(b) != 384 {
		t.Errorf("%d bytes: %x", len(b), b)
	}
}

// TestChunksOfABlock: none, empty ones, those of MaxChunk and one more, and as many as there is room for (P16.1).
func TestChunksOfABlock(t *testing.T) {
	for _, l := range [][]string{
		{"a"}, {"\x00"}, {"\x00", "\x00\x00"}, {text(299, 1)}, {text(300, 1)}, {text(256, 1)}, {text(255, 1)},
		{"a", "a", "a"}, // the same bytes more than once
		{text(300, 1), text(68, 2)}, {text(300, 1), text(67, 2)}, {text(300, 1), text(66, 2)}, {text(300, 1), text(65, 2)},
		{text(68, 2), text(300, 1)}, {text(184, 1), text(184, 2)}, {text(184, 1), text(183, 2)},
		{text(184, 1), text(182, 2)}, {text(184, 1), text(181, 1), "z"},
		slices.Repeat([]string{"a"}, 124), slices.Repeat([]string{"a"}, 123),
		append(slices.Repeat([]string{"a"}, 122), "ab"), append(slices.Repeat([]string{"a"}, 123), "\x00"),
	} {
		isArena(t, 7, l...)
	}
	for _, l := range [][]string{
		{}, {""}, {"", "a"}, {"a", "", "a"}, {text(301, 1)}, {"a", text(301, 1)}, {text(301, 1), "a"}, {text(370, 1)}, {text(371, 1)},
		{text(300, 1), text(69, 2)}, {text(300, 1), text(70, 2)}, {text(184, 1), text(185, 1)}, {text(300, 1), text(67, 2), "a"}, {text(300, 1), text(66, 2), "a"},
		slices.Repeat([]string{"a"}, 125), append(slices.Repeat([]string{"a"}, 123), "ab"), {text(70, 1), text(300, 1)}, {text(300, 1), text(300, 2)},
		slices.Repeat([]string{text(300, 1)}, 300), slices.Repeat([]string{""}, 500), {text(70000, 1)},
	} {
		isNoArena(t, 7, l...)
	}
	isNoArena(t, 0)
	isNoArena(t, top+1, text(301, 1))
	putsNone(t, 7, "a", "") // its bytes are those of "a" alone
	putsNone(t, 7, "a", "", "")
}

// TestEveryLength: one chunk of each length, alone, and with another in front of which there is just room, or one byte too few (P16.1).
func TestEveryLength(t *testing.T) {
	for n := 1; n <= 300; n++ {
		isArena(t, uint64(n), text(n, n))
		rest := 372 - 2 - 2 - n
		if rest <= 300 {
			isArena(t, uint64(n), text(n, n), text(rest, 1))
			isNoArena(t, uint64(n), text(n, n), text(rest+1, 1))
		}
	}
}

// TestOtherLengths: bytes that are too few or too many are no block (P16.1).
func TestOtherLengths(t *testing.T) {
	for _, l := range [][]string{{"a"}, {text(300, 1), text(68, 2)}, {text(300, 1), text(67, 2)}} {
		b := laid(7, l...)
		for n := range b {
			getsNone(t, b[:n])
		}
		for n := 1; n < 400; n++ {
			getsNone(t, append(bytes.Clone(b), make([]byte, n)...))
		}
		getsNone(t, append([]byte{0}, b...))
		getsNone(t, b[1:])
	}
	getsNone(t, nil)
	getsNone(t, []byte(zeros))
}

// TestEveryByteTurned: what GetBlock tells of a block with any byte another is put as just that block; the mark and what is behind the last chunk can't be another (P16.1).
func TestEveryByteTurned(t *testing.T) {
	for _, l := range [][]string{{"a"}, {"a", "bc", "def"}, {text(300, 1), text(68, 2)}, {text(300, 1), text(67, 2)}, {text(100, 1), text(10, 2)}} {
		b := laid(0x0102030405060708, l...)
		end := 12
		for _, c := range l {
			end += 2 + len(c)
		}
		taken := 0
		for i := range b {
			for x := range 256 {
				other := bytes.Clone(b)
				other[i] = byte(x)
				if byte(x) == b[i] {
					continue
				}
				got, e := arena.GetBlock(other)
				if e != api.OK {
					getsNone(t, other)
					continue
				}
				taken++
				if again, e := arena.PutBlock(got); e != api.OK || !bytes.Equal(again, other) {
					t.Fatalf("%q, the byte %d is %d: got %+v, put %x, error %d", l, i, x, got, again, e)
				}
				if i < 4 || i >= end+2 {
					t.Errorf("%q, the byte %d is %d: taken", l, i, x)
				}
			}
		}
		if taken < 1000 {
			t.Errorf("%q: only %d others were taken", l, taken)
		}
	}
}

// TestBehindTheLastChunk: any byte that is not zero there is refused, as far as it is no chunk more (P16.1).
func TestBehindTheLastChunk(t *testing.T) {
	for n := 1; n <= 300; n++ {
		b := laid(9, text(n, 1))
		for i := 12 + 2 + n; i < len(b); i++ {
			other := bytes.Clone(b)
			other[i] = 1
			if i == 12+2+n+1 && i+1 < len(b) { // a chunk of one zero byte
				if got, e := arena.GetBlock(other); e != api.OK || !sameArena(got, api.Arena{Stamp: 9, Chunks: chunks(text(n, 1), "\x00")}) {
					t.Errorf("%d bytes, 1 at %d: %+v, error %d", n, i, got, e)
				}
				continue
			}
			if i == 12+2+n && len(b)-i-2 >= 256 { // one of 256
				if got, e := arena.GetBlock(other); e != api.OK || len(got.Chunks) != 2 || len(got.Chunks[1]) != 256 {
					t.Errorf("%d bytes, 1 at %d: %+v, error %d", n, i, got, e)
				}
				continue
			}
			getsNone(t, other)
		}
	}
	for _, stamp := range []uint64{1, top} {
		b := laid(stamp, text(300, 1), text(67, 2))
		b[383] = 1 // one byte is no length
		getsNone(t, b)
	}
}

// TestLengthsOfChunks: each length that the first chunk's two bytes can tell (P16.1).
func TestLengthsOfChunks(t *testing.T) {
	for n := range 1 << 16 {
		b := append([]byte("AREN\x00\x00\x00\x00\x00\x00\x00\x05"), byte(n>>8), byte(n))
		b = append(b, bytes.Repeat([]byte{'a'}, min(n, 370))...)
		b = append(b, make([]byte, 384-len(b))...)
		if n < 1 || n > 300 {
			getsNone(t, b)
		} else if got, e := arena.GetBlock(b); e != api.OK || len(got.Chunks) != 1 || len(got.Chunks[0]) != n {
			t.Errorf("a length of %d: error %d", n, e)
		}
	}
}

// TestDrawnBlocks: there and back, of drawn arenas; and drawn bytes are put back as they were, or are none (P16.1).
func TestDrawnBlocks(t *testing.T) {
	dice := dice(1)
	for range 20000 {
		x := api.Arena{Stamp: 1 + uint64(dice.below(1<<31))}
		var l []string
		for left := 372; ; {
			n := 1 + dice.below(1+dice.below(300))
			left -= 2 + n
			if left < 0 || dice.below(12) == 0 {
				break
			}
			l = append(l, text(n, dice.below(99)))
		}
		if len(l) > 0 {
			isArena(t, x.Stamp, l...)
		}
		b := laid(x.Stamp, l...)
		for range 1 + dice.below(3) {
			b[dice.below(384)] = byte(dice.below(4))
		}
		if got, e := arena.GetBlock(b); e != api.OK {
			getsNone(t, b)
		} else if again, e := arena.PutBlock(got); e != api.OK || !bytes.Equal(again, b) {
			t.Fatalf("got %+v, put %x, error %d", got, again, e)
		}
	}
}
