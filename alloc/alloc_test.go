package alloc_test

import (
	"bytes"
	"testing"

	"granary/alloc"
	"granary/api"
)

// TestExamples: those of the chapter (P10.1 to P10.7).
func TestExamples(t *testing.T) {
	x := made(t, 4)
	x.takes(2, 2)
	x.takes(2, 3)
	x.takes(2, 0)
	x.gives(3)
	told(t, "Taken", x.a.Taken(), 2, 0)
	x.commits([]int{0, 2}, nil)
	x.bitmap(0x05)
	x.gives(2)
	x.takes(2, 3)
	x.state(2, api.BlockGiven)
	x.a.Abort()
	x.state(2, api.BlockUsed)
	x.state(3, api.BlockFree)

	x = made(t, 2)
	x.reserves(2)
	x.takesNone(0, api.ErrSpace)
	x.takesReserved(0, 0)
	want(t, "Reserve(1)", x.a.Reserve(1), api.ErrSpace)
	want(t, "Release(2)", x.a.Release(2), api.ErrArg)

	if a, e := alloc.Load(3, []byte{8}); a != nil || e != api.ErrBits {
		t.Errorf("Load(3, 08): %v, error %d", a, e)
	}
	x = made(t, 1)
	x.takes(0, 0)
	x.a.Commit()
	x.a.Hold()
	x.gives(0)
	x.a.Commit()
	x.state(0, api.BlockHeld)
	x.takesNone(0, api.ErrSpace)
	told(t, "LetGo", x.a.LetGo(), 0)
	x.takes(0, 0)
}

// TestHowManyBlocks: 1 to MaxBlocks, and no other number (P10.1).
func TestHowManyBlocks(t *testing.T) {
	for _, blocks := range []int{leastInt, leastInt + 1, -65536, -1, 0, api.MaxBlocks + 1, api.MaxBlocks + 8, 1 << 32, greatestInt - 7, greatestInt} {
		if a, e := alloc.New(blocks); a != nil || e != api.ErrArg {
			t.Errorf("New(%d): %v, error %d", blocks, a != nil, e)
		}
		for _, bytes := range []int{0, 1, 8192, 8193} {
			if a, e := alloc.Load(blocks, make([]byte, bytes)); a != nil || e != api.ErrArg {
				t.Errorf("Load(%d) of %d bytes: %v, error %d", blocks, bytes, a != nil, e)
			}
		}
	}
	for _, blocks := range []int{1, 2, 7, 8, 9, 15, 16, 17, api.MaxBlocks - 1, api.MaxBlocks} {
		for _, x := range []desk{made(t, blocks), loaded(t, blocks, make([]byte, (blocks+7)/8)...)} {
			if got := x.a.Blocks(); got != blocks {
				t.Errorf("Blocks: %d, want %d", got, blocks)
			}
			x.counts(blocks, 0)
			x.holds(0)
			x.bitmap(make([]byte, (blocks+7)/8)...)
			told(t, "Taken", x.a.Taken())
			told(t, "Given", x.a.Given())
			told(t, "Runs", x.a.Runs(), [2]int{0, blocks})
			x.state(0, api.BlockFree)
			x.state(blocks-1, api.BlockFree)
			x.commits(nil, nil)
		}
	}
}

// TestLoadedBits: a block is used just if its bit is set, the lowest bit of a byte being its first block's (P10.1).
func TestLoadedBits(t *testing.T) {
	for _, blocks := range []int{1, 2, 7, 8, 9, 16, 17, 23, 24} {
		for set := range blocks {
			bitmap := make([]byte, (blocks+7)/8)
			bitmap[set/8] = 1 << (set % 8)
			x := loaded(t, blocks, bitmap...)
			for b := range blocks {
				if b == set {
					x.state(b, api.BlockUsed)
				} else {
					x.state(b, api.BlockFree)
				}
			}
			x.counts(blocks-1, 0)
			x.bitmap(bitmap...)
			told(t, "Taken", x.a.Taken())
			told(t, "Given", x.a.Given())
		}
	}
	x := loaded(t, 12, 0xb1, 0x06)
	x.states("ufffuufufuuf")
	x.counts(6, 0)
	all := loaded(t, api.MaxBlocks, bytes.Repeat([]byte{255}, 8192)...)
	all.counts(0, 0)
	told(t, "Runs", all.a.Runs())
}

// TestNoBitmap: other lengths, and bits behind the last block (P10.1).
func TestNoBitmap(t *testing.T) {
	refused := func(blocks int, bitmap []byte) {
		t.Helper()
		if a, e := alloc.Load(blocks, bitmap); a != nil || e != api.ErrBits {
			t.Errorf("Load(%d) of %d bytes, %x: %v, error %d", blocks, len(bitmap), bitmap[max(0, len(bitmap)-1):], a != nil, e)
		}
	}
	for _, blocks := range []int{1, 7, 8, 9, 15, 16, 17, 70, api.MaxBlocks - 1, api.MaxBlocks} {
		right := (blocks + 7) / 8
		refused(blocks, nil)
		refused(blocks, []byte{})
		refused(blocks, make([]byte, right-1))
		refused(blocks, make([]byte, right+1))
		refused(blocks, bytes.Repeat([]byte{255}, right+1))
		for bit := blocks; bit < 8*right; bit++ {
			bitmap := make([]byte, right)
			bitmap[bit/8] = 1 << (bit % 8)
			refused(blocks, bitmap)
			bitmap[0] |= 1
			refused(blocks, bitmap)
		}
		if blocks%8 != 0 {
			refused(blocks, bytes.Repeat([]byte{255}, right))
		}
	}
}

// TestWhichBlocks: the blocks that there are, and no others (P10.2 to P10.4).
func TestWhichBlocks(t *testing.T) {
	for _, blocks := range []int{1, 7, 8, 9, 70, api.MaxBlocks} {
		for _, b := range nowhere(blocks) {
			x := made(t, blocks)
			x.state(b, -1)
			x.takesNone(b, api.ErrArg)
			x.takesNoneReserved(b, api.ErrArg)
			want(t, "Give", x.a.Give(b), api.ErrArg)
			want(t, "Mark", x.a.Mark(b), api.ErrArg)
			x.reserves(blocks)
			x.takesNone(b, api.ErrArg)
			x.takesNoneReserved(b, api.ErrArg)
			want(t, "Mark", x.a.Mark(b), api.ErrArg)
			x.counts(blocks, blocks)
			told(t, "Taken", x.a.Taken())
		}
		for _, b := range []int{0, blocks / 2, blocks - 1} {
			x := made(t, blocks)
			x.state(b, api.BlockFree)
			x.takes(b, b)
			x.gives(b)
			x.marks(b)
			x.gives(b)
			x.reserves(1)
			x.takesReserved(b, b)
			x.state(b, api.BlockTaken)
			x.counts(blocks-1, 0)
		}
	}
}

// TestNil: every call on no allocator (P10.7).
func TestNil(t *testing.T) {
	x := desk{t, nil}
	for _, n := range []int{leastInt, -1, 0, 1, 2, api.MaxBlocks, greatestInt} {
		x.takesNone(n, api.ErrNone)
		x.takesNoneReserved(n, api.ErrNone)
		want(t, "Give", x.a.Give(n), api.ErrNone)
		want(t, "Mark", x.a.Mark(n), api.ErrNone)
		want(t, "Reserve", x.a.Reserve(n), api.ErrNone)
		want(t, "Release", x.a.Release(n), api.ErrNone)
		x.state(n, -1)
	}
	x.a.Hold()
	x.a.Abort()
	x.holds(0)
	told(t, "LetGo", x.a.LetGo())
	x.commits(nil, nil)
	if got := x.a.Blocks(); got != 0 {
		t.Errorf("Blocks: %d", got)
	}
	x.counts(0, 0)
	told(t, "Taken", x.a.Taken())
	told(t, "Given", x.a.Given())
	x.bitmap()
	told(t, "Runs", x.a.Runs())
	if x.a.Copy() != nil {
		t.Error("a copy of none is one")
	}
}
