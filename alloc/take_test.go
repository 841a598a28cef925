package alloc_test

import (
	"bytes"
	"testing"

	"granary/api"
)

// TestWhereItIsTaken: the first free block from from on, or else the first of all; for each part of six blocks that may be used, and each from (P10.3).
func TestWhereItIsTaken(t *testing.T) {
	const blocks = 6
	for bits := range 1 << blocks {
		for from := range blocks {
			first := -1
			for b := range 2 * blocks {
				if at := b % blocks; b >= from && (b < blocks || at < from) && bits>>at&1 == 0 && first < 0 {
					first = at
				}
			}
			x, y := loaded(t, blocks, byte(bits)), loaded(t, blocks, byte(bits))
			if first < 0 {
				x.takesNone(from, api.ErrSpace)
				y.takesNoneReserved(from, api.ErrSpace)
				continue
			}
			free := x.a.Free()
			x.takes(from, first)
			x.state(first, api.BlockTaken)
			x.counts(free-1, 0)
			y.reserves(1)
			y.takesReserved(from, first)
			y.state(first, api.BlockTaken)
			y.counts(free-1, 0)
		}
	}
}

// TestTakenFromTheFront: where all free blocks lie ahead of from, the least of them, also of very many (P10.3).
func TestTakenFromTheFront(t *testing.T) {
	x := loaded(t, 10, 0xc0, 0x03)
	x.takes(7, 0)
	x.takes(9, 1)
	x.takes(6, 2)
	x.takes(5, 5)
	x.takes(5, 3)
	x.takes(5, 4)
	x.takesNone(5, api.ErrSpace)
	told(t, "Taken", x.a.Taken(), 0, 1, 2, 5, 3, 4)

	bitmap := bytes.Repeat([]byte{255}, 8192)
	bitmap[5] = 0xef
	x = loaded(t, api.MaxBlocks, bitmap...)
	x.reserves(1)
	x.takesReserved(api.MaxBlocks-1, 44)
	x.takesNone(0, api.ErrSpace)
}

// TestNoneFree: no block is answered that is used, taken, given or held (P10.3).
func TestNoneFree(t *testing.T) {
	for _, blocks := range []int{1, 5, 9, 40} {
		x := colours(t, blocks)
		for b := 0; b < blocks; b += 5 {
			x.takes(b, b)
		}
		for from := range blocks {
			x.stays("behind a refusal", func() {
				x.takesNone(from, api.ErrSpace)
				x.takesNoneReserved(from, api.ErrSpace)
			})
		}
	}
}

// TestReservedIsKept: Take answers none of what is reserved, TakeReserved nothing else (P10.3).
func TestReservedIsKept(t *testing.T) {
	x := made(t, 5)
	x.stays("nothing is reserved", func() { x.takesNoneReserved(0, api.ErrSpace) })
	x.reserves(3)
	x.takes(4, 4)
	x.takes(4, 0)
	x.counts(3, 3)
	x.stays("all free ones are reserved", func() { x.takesNone(0, api.ErrSpace) })
	x.takesReserved(2, 2)
	x.counts(2, 2)
	x.takesNone(0, api.ErrSpace)
	x.gives(4)
	x.counts(3, 2)
	x.takes(0, 1)
	x.takesNone(0, api.ErrSpace)
	x.takesReserved(3, 3)
	x.takesReserved(0, 4)
	x.counts(0, 0)
	x.takesNone(0, api.ErrSpace)
	x.takesNoneReserved(0, api.ErrSpace)
}

// TestGiveByState: of a block in each of the five states (P10.4).
func TestGiveByState(t *testing.T) {
	x := colours(t, 5)
	x.states("futgh")
	for _, b := range []int{api.BlockFree, api.BlockGiven, api.BlockHeld} {
		x.stays("behind a refusal", func() { want(t, "Give", x.a.Give(b), api.ErrState) })
	}
	told(t, "Taken", x.a.Taken(), 2)
	told(t, "Given", x.a.Given(), 3)
	x.gives(2)
	x.states("fufgh")
	x.counts(2, 0)
	told(t, "Taken", x.a.Taken())
	told(t, "Given", x.a.Given(), 3)
	x.gives(1)
	x.states("fgfgh")
	x.counts(2, 0)
	told(t, "Given", x.a.Given(), 3, 1)
	want(t, "Give of what was taken", x.a.Give(2), api.ErrState)
	want(t, "Give of what was used", x.a.Give(1), api.ErrState)
	x.takes(1, 2)
	x.takes(1, 0)
	x.takesNone(1, api.ErrSpace)
}

// TestMarkByState: of a block in each of the five states (P10.4).
func TestMarkByState(t *testing.T) {
	x := colours(t, 10)
	for b := 1; b < 5; b++ {
		x.stays("behind a refusal", func() { want(t, "Mark", x.a.Mark(b), api.ErrState) })
	}
	x.marks(5)
	x.states("futghtutgh")
	x.counts(1, 0)
	told(t, "Taken", x.a.Taken(), 2, 7, 5)
	want(t, "Mark of what was marked", x.a.Mark(5), api.ErrState)
}

// TestMarkOfReserved: a free block is not marked, where all free ones are reserved (P10.4).
func TestMarkOfReserved(t *testing.T) {
	x := made(t, 4)
	x.reserves(2)
	x.marks(3, 1)
	for _, b := range []int{0, 2} {
		x.stays("behind a refusal", func() { want(t, "Mark", x.a.Mark(b), api.ErrState) })
	}
	want(t, "Release", x.a.Release(1), api.OK)
	x.marks(2)
	x.counts(1, 1)
	want(t, "Mark", x.a.Mark(0), api.ErrState)
}

// TestReserve: from 0 to as many as are free and not reserved (P10.5).
func TestReserve(t *testing.T) {
	x := loaded(t, 9, 0x81, 0x00)
	refused := func(n int, why api.Errno) {
		t.Helper()
		x.stays("behind a refusal", func() { want(t, "Reserve", x.a.Reserve(n), why) })
	}
	for _, n := range []int{leastInt, leastInt + 1, -9, -1} {
		refused(n, api.ErrArg)
	}
	for _, n := range []int{8, 9, 10, 1 << 32, greatestInt - 1, greatestInt} {
		refused(n, api.ErrSpace)
	}
	x.reserves(0)
	x.counts(7, 0)
	x.reserves(3)
	x.counts(7, 3)
	refused(5, api.ErrSpace)
	refused(greatestInt, api.ErrSpace)
	refused(-1, api.ErrArg)
	x.reserves(0)
	x.reserves(4)
	x.counts(7, 7)
	x.reserves(0)
	refused(1, api.ErrSpace)
	refused(leastInt, api.ErrArg)
	x.states("uffffffuf")
}

// TestReserveByState: just free blocks can be reserved (P10.5).
func TestReserveByState(t *testing.T) {
	x := colours(t, 10)
	want(t, "Reserve(3)", x.a.Reserve(3), api.ErrSpace)
	x.reserves(2)
	x.counts(2, 2)
	all := made(t, api.MaxBlocks)
	want(t, "Reserve of one more", all.a.Reserve(api.MaxBlocks+1), api.ErrSpace)
	all.reserves(api.MaxBlocks)
	all.counts(api.MaxBlocks, api.MaxBlocks)
}

// TestRelease: from 0 to as many as are reserved (P10.5).
func TestRelease(t *testing.T) {
	x := made(t, 6)
	refused := func(n int) {
		t.Helper()
		x.stays("behind a refusal", func() { want(t, "Release", x.a.Release(n), api.ErrArg) })
	}
	for _, n := range []int{leastInt, -1, 1, 6, greatestInt} {
		refused(n)
	}
	want(t, "Release(0)", x.a.Release(0), api.OK)
	x.reserves(5)
	for _, n := range []int{leastInt, -5, -1, 6, 7, greatestInt} {
		refused(n)
	}
	want(t, "Release(0)", x.a.Release(0), api.OK)
	x.counts(6, 5)
	want(t, "Release(2)", x.a.Release(2), api.OK)
	x.counts(6, 3)
	x.takes(0, 0)
	refused(4)
	want(t, "Release of all", x.a.Release(3), api.OK)
	x.counts(5, 0)
	refused(1)
}
