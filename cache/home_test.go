package cache_test

import (
	"testing"

	"granary/api"
)

// TestLongestAgo: what was used longest ago makes room, whichever call used it (P9.6, P9.7).
func TestLongestAgo(t *testing.T) {
	uses := []func(x table, b int){
		func(x table, b int) { x.c.Read(b) },
		func(x table, b int) { x.c.Write(b, nil, 0) },
		func(x table, b int) { x.pins(b); x.c.Unpin(b) },
	}
	for _, use := range uses {
		for b, left := range [][]int{{1, 2, 0}, {0, 2, 1}, {0, 1, 2}} {
			x := lay(t, 4, 3)
			for each := range 3 {
				x.c.Read(each)
			}
			use(x, b)
			x.held(left...)
			x.c.Read(3)
			x.held(left[1], left[2], 3)
		}
	}
}

// TestNoUse: what is refused, what fails and what only asks or writes home leaves the order as it was (P9.6, P9.7).
func TestNoUse(t *testing.T) {
	x := lay(t, 6, 3)
	x.writes(0, "a", 9)
	x.pins(1, 2)
	x.held(0, 1, 2)
	want(t, "Write", x.c.Write(0, make([]byte, 385), 1), api.ErrLong)
	x.unread(3, api.ErrAhead)
	x.held(0, 1, 2)
	want(t, "Pin", x.c.Pin(4), api.ErrAhead)
	want(t, "Write", x.c.Write(4, nil, 1), api.ErrAhead)
	want(t, "Drop", x.c.Drop(1), api.ErrPinned)
	x.held(0, 1, 2)
	x.c.Safe(9)
	x.d.until = 1
	x.cleans(9, 0, errBroken)
	x.held(0, 1, 2)
	x.d.until = 1
	x.unread(3, errBroken)
	x.held(0, 1, 2)
	x.cleans(9, 1, api.OK)
	x.held(0, 1, 2)
	want(t, "Flush", x.c.Flush(), api.OK)
	x.c.Dirty()
	x.c.Oldest()
	x.c.Hits()
	x.held(0, 1, 2)
}

// TestRoomPassesOver: held blocks, and those ahead of the journal, are passed over for a later one (P9.6).
func TestRoomPassesOver(t *testing.T) {
	x := lay(t, 9, 4)
	x.pins(0)
	x.writes(1, "b", 8)
	x.writes(2, "c", 3)
	x.reads(3, "home D")
	x.d.heard()
	x.c.Safe(5)
	x.reads(4, "home E")
	x.heard(writeOf(2, "c"), readOf(4))
	x.held(0, 1, 3, 4)
	x.reads(5, "home F")
	x.heard(readOf(5))
	x.held(0, 1, 4, 5)
	x.pins(4)
	x.writes(5, "f", 6)
	x.heard()
	x.unread(6, api.ErrAhead)
	x.pins(1)
	x.unread(6, api.ErrAhead)
	x.pins(5)
	x.unread(6, api.ErrPinned)
	x.heard()
	x.c.Safe(9)
	x.unread(6, api.ErrPinned)
	x.heard()
	want(t, "Unpin", x.c.Unpin(5), api.OK)
	x.reads(6, "home G")
	x.heard(writeOf(5, "f"), readOf(6))
	x.held(0, 4, 1, 6)
	x.dirty(api.Dirty{Block: 1, First: 8, Last: 8, Pins: 1})
}

// TestRoomByLast: whether a block may make room hangs on its Last, not on its First (P9.6, P9.10).
func TestRoomByLast(t *testing.T) {
	x := lay(t, 3, 1)
	x.writes(0, "a", 3)
	x.writes(0, "aa", 7)
	x.c.Safe(6)
	x.unread(1, api.ErrAhead)
	x.heard()
	x.writes(0, "aaa", 2)
	x.reads(1, "home B")
	x.heard(writeOf(0, "aaa"), readOf(1))
	x.writes(1, "b", 9)
	x.writes(1, "bb", 4)
	x.reads(2, "home C")
	x.heard(writeOf(1, "bb"), readOf(2))
}

// TestRoomFails: home's error of Write is the error; the block stays, dirty; no other one is tried (P9.6).
func TestRoomFails(t *testing.T) {
	ways := []func(x table, b int) api.Errno{
		func(x table, b int) api.Errno { _, e := x.c.Read(b); return e },
		func(x table, b int) api.Errno { return x.c.Write(b, []byte("new"), 1) },
		func(x table, b int) api.Errno { return x.c.Pin(b) },
	}
	for _, tries := range ways {
		x := lay(t, 4, 2)
		x.writes(0, "a", 3)
		x.reads(1, "home B")
		x.c.Safe(3)
		x.d.heard()
		x.d.until = 1
		want(t, "room", tries(x, 2), errBroken)
		x.heard(writeOf(0, "a"))
		x.held(0, 1)
		x.dirty(api.Dirty{Block: 0, First: 3, Last: 3})
		x.hits(0, 1)
		x.lies(0, "home A")
		want(t, "room", tries(x, 2), api.OK)
		x.held(1, 2)
		x.lies(0, "a")
	}
}

// TestRoomOfClean: a block that is not dirty goes without a word to home (P9.6).
func TestRoomOfClean(t *testing.T) {
	x := lay(t, 3, 1)
	x.writes(0, "a", 1)
	x.c.Safe(1)
	x.cleans(1, 1, api.OK)
	x.heard(writeOf(0, "a"))
	x.writes(1, "b", 2)
	x.heard()
	x.held(1)
}

// some is a cache with five dirty blocks, of which one is ahead of the journal, and one that is not dirty.
func some(t *testing.T) table {
	x := lay(t, 7, 6)
	x.writes(4, "e", 5)
	x.writes(3, "d", 2)
	x.writes(0, "a", 7)
	x.writes(1, "b", 5)
	x.writes(5, "f", 1)
	x.writes(5, "ff", 9)
	x.reads(6, "home G")
	x.pins(3, 3)
	x.c.Safe(8)
	x.d.heard()
	return x
}

// TestClean: by rising First, then Block, held ones too, just as many as are asked for (P9.6, P9.7).
func TestClean(t *testing.T) {
	all := []call{writeOf(3, "d"), writeOf(1, "b"), writeOf(4, "e"), writeOf(0, "a")}
	left := []api.Dirty{
		{Block: 3, First: 2, Last: 2, Pins: 2}, {Block: 1, First: 5, Last: 5}, {Block: 4, First: 5, Last: 5}, {Block: 0, First: 7, Last: 7},
	}
	ahead := api.Dirty{Block: 5, First: 1, Last: 9}
	for _, most := range []int{leastInt, -1, 0, 1, 2, 3, 4, 5, 6, 1000, greatestInt} {
		x := some(t)
		n := min(max(most, 0), 4)
		x.dirty(append([]api.Dirty{ahead}, left...)...)
		x.cleans(most, n, api.OK)
		x.heard(all[:n]...)
		x.dirty(append([]api.Dirty{ahead}, left[n:]...)...)
		x.held(4, 0, 1, 5, 6, 3)
		x.hits(2, 1)
		x.cleans(most, min(n, 4-n), api.OK)
		x.d.heard()
		x.reads(3, "d")
		x.reads(0, "a")
		want(t, "Drop", x.c.Drop(3), api.ErrPinned)
		x.heard()
	}
}

// TestCleanFails: how many were written ahead of home's first error (P9.6).
func TestCleanFails(t *testing.T) {
	all := []call{writeOf(3, "d"), writeOf(1, "b"), writeOf(4, "e"), writeOf(0, "a")}
	for fails := 1; fails <= 5; fails++ {
		for most := range 6 {
			x := some(t)
			x.d.until = fails
			if fails > most || fails > 4 {
				x.cleans(most, min(most, 4), api.OK)
				continue
			}
			x.cleans(most, fails-1, errBroken)
			x.heard(all[:fails]...)
			if n := len(x.c.Dirty()); n != 5-(fails-1) {
				t.Errorf("the call %d fails: %d blocks are dirty", fails, n)
			}
			x.cleans(9, 5-fails, api.OK)
			x.heard(all[fails-1:]...)
		}
	}
}

// TestFlush: all that may be, and home's Flush behind it (P9.6, P9.11).
func TestFlush(t *testing.T) {
	x := some(t)
	all := []call{writeOf(3, "d"), writeOf(1, "b"), writeOf(4, "e"), writeOf(0, "a"), flush()}
	want(t, "Flush", x.c.Flush(), api.ErrAhead)
	x.heard(all...)
	x.dirty(api.Dirty{Block: 5, First: 1, Last: 9})
	want(t, "Flush", x.c.Flush(), api.ErrAhead)
	x.heard(flush())
	x.c.Safe(9)
	want(t, "Flush", x.c.Flush(), api.OK)
	x.heard(writeOf(5, "ff"), flush())
	x.dirty()
	want(t, "Flush", x.c.Flush(), api.OK)
	x.heard(flush())
	x.held(4, 0, 1, 5, 6, 3)
}

// TestFlushFails: the first error ends it, also where blocks would stay dirty; those that were written are not dirty (P9.6).
func TestFlushFails(t *testing.T) {
	all := []call{writeOf(3, "d"), writeOf(1, "b"), writeOf(4, "e"), writeOf(0, "a"), flush()}
	for _, safe := range []uint64{8, 9} {
		for fails := 1; fails <= 5; fails++ {
			x := some(t)
			if safe == 9 {
				want(t, "Drop", x.c.Drop(5), api.OK)
			}
			x.c.Safe(safe)
			x.d.until = fails
			want(t, "Flush", x.c.Flush(), errBroken)
			x.heard(all[:fails]...)
			why := api.ErrAhead
			if safe == 9 {
				why = api.OK
			}
			want(t, "Flush again", x.c.Flush(), why)
			x.heard(all[min(fails-1, 4):]...)
		}
	}
}

// TestHits: Reads and Pins that were OK, and no other call (P9.7).
func TestHits(t *testing.T) {
	x := lay(t, 5, 2)
	x.writes(0, "a", 1)
	x.writes(0, "b", 1)
	x.hits(0, 0)
	x.reads(0, "b")
	x.pins(0)
	x.hits(2, 0)
	x.pins(1)
	x.hits(2, 1)
	x.unread(2, api.ErrPinned)
	want(t, "Pin", x.c.Pin(2), api.ErrPinned)
	x.unread(5, api.ErrArg)
	x.hits(2, 1)
	want(t, "Unpin", x.c.Unpin(1), api.OK)
	x.d.until = 1
	x.unread(2, errBroken)
	x.hits(2, 1)
	x.d.until = 1
	want(t, "Pin", x.c.Pin(2), errBroken)
	x.hits(2, 1)
	x.reads(2, "home C")
	want(t, "Drop", x.c.Drop(2), api.OK)
	x.c.Clean(9)
	x.c.Flush()
	x.hits(2, 2)
}
