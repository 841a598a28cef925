package cache_test

import (
	"strings"
	"testing"

	"granary/api"
	"granary/cache"
)

// TestExamples: those of the chapter (P9.2 to P9.7).
func TestExamples(t *testing.T) {
	x := lay(t, 3, 2)
	x.writes(0, "a", 5)
	x.writes(1, "b", 6)
	x.unread(2, api.ErrAhead)
	x.lies(0, "home A")
	x.c.Safe(5)
	x.reads(2, "home C")
	x.lies(0, "a")
	x.lies(1, "home B")
	x.held(1, 2)

	x.pins(1, 2)
	x.unread(0, api.ErrPinned)
	want(t, "Unpin(0)", x.c.Unpin(0), api.ErrUnpin)
	x.cleans(9, 0, api.OK)
	x.dirty(api.Dirty{Block: 1, First: 6, Last: 6, Pins: 1})
}

// TestNew: which caches there can be; a new one is empty, and asks home for nothing (P9.1).
func TestNew(t *testing.T) {
	d := newShelf(2)
	for _, places := range []int{leastInt, -4096, -1, 0, 4097, 4098, greatestInt} {
		if c, e := cache.New(d, places); c != nil || e != api.ErrArg {
			t.Errorf("New with %d places: %v, error %d", places, c, e)
		}
		if c, e := cache.New(nil, places); c != nil || e != api.ErrArg {
			t.Errorf("New without a home, with %d places: %v, error %d", places, c, e)
		}
	}
	for _, places := range []int{1, 2, 4095, 4096} {
		if c, e := cache.New(nil, places); c != nil || e != api.ErrArg {
			t.Errorf("New without a home: %v, error %d", c, e)
		}
		x := table{t, d, made(t, d, places)}
		x.held()
		x.dirty()
		x.hits(0, 0)
		x.cleans(9, 0, api.OK)
	}
	if len(d.heard()) != 0 {
		t.Errorf("home was asked")
	}
	want(t, "Flush", made(t, d, 1).Flush(), api.OK)
}

// TestPlaces: room is made just when all places are taken, be they few or many (P9.1, P9.6, P9.11).
func TestPlaces(t *testing.T) {
	for _, places := range []int{1, 2, 3, 100, 4095, 4096} {
		x := lay(t, places+1, places)
		var all []int
		for b := range places {
			if b%2 == 0 {
				x.writes(b, "new", 0)
			} else {
				x.reads(b, "home "+string(rune('A'+b%26)))
			}
			all = append(all, b)
		}
		x.held(all...)
		for _, c := range x.d.heard() {
			if c.kind != 'r' {
				t.Fatalf("%d places: home heard %v", places, c)
			}
		}
		x.pins(places)
		x.heard(writeOf(0, "new"), readOf(places))
		x.held(append(all[1:], places)...)
	}
}

// TestWhichBlocks: those that home has, and no others (P9.2 to P9.4, P9.8).
func TestWhichBlocks(t *testing.T) {
	for _, size := range []int{0, 1, 3} {
		for _, b := range []int{leastInt, leastInt + 1, -2, -1, size, size + 1, 1 << 32, greatestInt - 1, greatestInt} {
			x := lay(t, size, 2)
			x.unread(b, api.ErrArg)
			want(t, "Write", x.c.Write(b, nil, 1), api.ErrArg)
			want(t, "Write of too many bytes", x.c.Write(b, make([]byte, 385), 1), api.ErrArg)
			want(t, "Pin", x.c.Pin(b), api.ErrArg)
			want(t, "Unpin", x.c.Unpin(b), api.ErrUnpin)
			want(t, "Drop", x.c.Drop(b), api.ErrArg)
			x.held()
			x.dirty()
			x.hits(0, 0)
			x.heard()
		}
	}
	for _, b := range []int{0, 1, 2} {
		x := lay(t, 3, 2)
		x.reads(b, "home "+string(rune('A'+b)))
		x.writes(b, "w", 1)
		x.pins(b)
		want(t, "Unpin", x.c.Unpin(b), api.OK)
		want(t, "Drop", x.c.Drop(b), api.OK)
		x.heard(readOf(b))
	}
}

// TestErrArgFirst: such a block is refused ahead of all else, also where there is no room (P9.2 to P9.4).
func TestErrArgFirst(t *testing.T) {
	x := lay(t, 2, 1)
	x.pins(0)
	x.unread(2, api.ErrArg)
	x.unread(1, api.ErrPinned)
	want(t, "Pin", x.c.Pin(-1), api.ErrArg)
	want(t, "Write", x.c.Write(-1, make([]byte, 400), 1), api.ErrArg)
	want(t, "Write", x.c.Write(1, make([]byte, 385), 1), api.ErrLong)
	want(t, "Write", x.c.Write(1, make([]byte, 384), 1), api.ErrPinned)
	x.held(0)
}

// TestRead: from home once, and then as it is in the cache; a use (P9.2, P9.7).
func TestRead(t *testing.T) {
	x := lay(t, 4, 3)
	x.reads(2, "home C")
	x.heard(readOf(2))
	x.hits(0, 1)
	x.reads(2, "home C")
	x.reads(0, "home A")
	x.heard(readOf(0))
	x.hits(1, 2)
	x.held(2, 0)
	x.reads(2, "home C")
	x.held(0, 2)
	x.writes(1, "new", 4)
	x.reads(1, "new")
	x.reads(0, "home A")
	x.held(2, 1, 0)
	x.hits(4, 2)
	x.dirty(api.Dirty{Block: 1, First: 4, Last: 4})
	x.heard()
}

// TestReadAgain: what made room is read from home again, as it was written (P9.2, P9.6, P9.9).
func TestReadAgain(t *testing.T) {
	x := lay(t, 2, 1)
	x.writes(0, "new", 3)
	x.c.Safe(3)
	x.reads(1, "home B")
	x.heard(writeOf(0, "new"), readOf(1))
	x.reads(0, "new")
	x.heard(readOf(0))
	x.held(0)
	x.dirty()
}

// odd is a shelf whose Read answers blocks that are too short or too long.
type odd struct{ *shelf }

func (d odd) Read(b int) ([]byte, api.Errno) {
	return []byte([]string{"", "s", strings.Repeat("l", 500)}[b]), api.OK
}

// TestWholeBlocks: Read always tells BlockBytes bytes (P9.2).
func TestWholeBlocks(t *testing.T) {
	d := newShelf(3)
	x := table{t, d, made(t, odd{d}, 3)}
	for range 2 {
		x.reads(0, "")
		x.reads(1, "s")
		x.reads(2, strings.Repeat("l", 384))
	}
}

// TestReadFails: home's error; the block is not in the cache, what made room is gone (P9.2, P9.4, P9.7).
func TestReadFails(t *testing.T) {
	ways := []func(x table, b int, why api.Errno){
		func(x table, b int, why api.Errno) { x.unread(b, why) },
		func(x table, b int, why api.Errno) { want(x.t, "Pin", x.c.Pin(b), why) },
	}
	for _, tries := range ways {
		x := lay(t, 4, 2)
		x.d.until = 1
		tries(x, 3, errBroken)
		x.heard(readOf(3))
		x.held()
		x.reads(0, "home A")
		x.d.heard()
		x.d.until = 1
		tries(x, 1, errBroken)
		x.heard(readOf(1))
		x.held(0)
		x.writes(1, "b", 5)
		x.c.Safe(5)
		x.reads(0, "home A")
		x.hits(1, 1)

		x.d.until = 2
		tries(x, 3, errBroken)
		x.heard(writeOf(1, "b"), readOf(3))
		x.held(0)
		x.dirty()
		x.hits(1, 1)
		x.lies(1, "b")
		want(x.t, "Unpin", x.c.Unpin(3), api.ErrUnpin)
		x.reads(3, "home D")
		x.heard(readOf(3))
		x.hits(1, 2)

		x.d.until = 1
		tries(x, 2, errBroken)
		x.heard(readOf(2))
		x.held(3)
	}
}

// TestWriteBytes: up to BlockBytes bytes, and zeros behind them, whatever was there (P9.3).
func TestWriteBytes(t *testing.T) {
	x := lay(t, 2, 2)
	for _, n := range []int{0, 1, 383, 384} {
		text := strings.Repeat("n", n)
		x.writes(0, strings.Repeat("o", 384), 1)
		x.writes(0, text, 2)
		x.reads(0, text)
		x.writes(1, text, 2)
		x.reads(1, text)
	}
	want(t, "Write", x.c.Write(0, nil, 3), api.OK)
	x.reads(0, "")
	x.heard()
	for _, n := range []int{385, 386, 768, 100000} {
		want(t, "Write", x.c.Write(1, make([]byte, n), 9), api.ErrLong)
	}
	x.reads(1, strings.Repeat("n", 384))
	x.dirty(api.Dirty{Block: 0, First: 1, Last: 3}, api.Dirty{Block: 1, First: 2, Last: 2})
	x.c.Safe(3)
	want(t, "Flush", x.c.Flush(), api.OK)
	x.heard(writeOf(0, ""), writeOf(1, strings.Repeat("n", 384)), flush())
}

// TestWriteLong: nothing has changed, and no room was made (P9.3).
func TestWriteLong(t *testing.T) {
	x := lay(t, 3, 1)
	x.reads(0, "home A")
	x.heard(readOf(0))
	want(t, "Write", x.c.Write(1, make([]byte, 385), 1), api.ErrLong)
	x.held(0)
	x.dirty()
	x.heard()
}

// TestWriteRoom: a block that is written is not read; one that is there needs no room (P9.3).
func TestWriteRoom(t *testing.T) {
	x := lay(t, 3, 1)
	x.writes(0, "a", 7)
	want(t, "Write", x.c.Write(1, []byte("b"), 8), api.ErrAhead)
	x.dirty(api.Dirty{Block: 0, First: 7, Last: 7})
	x.pins(0)
	want(t, "Write", x.c.Write(1, []byte("b"), 8), api.ErrPinned)
	x.writes(0, "aa", 8)
	x.dirty(api.Dirty{Block: 0, First: 7, Last: 8, Pins: 1})
	x.heard()
	want(t, "Unpin", x.c.Unpin(0), api.OK)
	x.c.Safe(8)
	x.d.until = 1
	want(t, "Write", x.c.Write(1, []byte("b"), 9), errBroken)
	x.heard(writeOf(0, "aa"))
	x.held(0)
	x.dirty(api.Dirty{Block: 0, First: 7, Last: 8})
	x.writes(1, "b", 9)
	x.heard(writeOf(0, "aa"))
	x.held(1)
	x.dirty(api.Dirty{Block: 1, First: 9, Last: 9})
	x.hits(1, 0)
}

// TestFirstAndLast: First stays while the block is dirty, Last turns, also to a lesser change; written home, it begins anew (P9.3, P9.6, P9.7).
func TestFirstAndLast(t *testing.T) {
	x := lay(t, 3, 2)
	x.writes(0, "a", 5)
	x.writes(0, "b", 9)
	x.dirty(api.Dirty{Block: 0, First: 5, Last: 9})
	x.c.Safe(7)
	x.cleans(9, 0, api.OK)
	x.writes(0, "c", 3)
	x.dirty(api.Dirty{Block: 0, First: 5, Last: 3})
	x.cleans(9, 1, api.OK)
	x.heard(writeOf(0, "c"))
	x.dirty()
	x.writes(0, "d", 6)
	x.dirty(api.Dirty{Block: 0, First: 6, Last: 6})
	x.writes(0, "e", 2)
	x.dirty(api.Dirty{Block: 0, First: 6, Last: 2})
	x.d.until = 1
	x.cleans(9, 0, errBroken)
	x.writes(0, "f", 8)
	x.dirty(api.Dirty{Block: 0, First: 6, Last: 8})
	want(t, "Drop", x.c.Drop(0), api.OK)
	x.writes(0, "g", 11)
	x.dirty(api.Dirty{Block: 0, First: 11, Last: 11})
}

// TestFirstBehindRoom: a block that made room, and is there again, begins anew (P9.3, P9.6).
func TestFirstBehindRoom(t *testing.T) {
	x := lay(t, 2, 1)
	x.writes(0, "a", 4)
	x.c.Safe(4)
	x.reads(1, "home B")
	x.reads(0, "a")
	x.dirty()
	x.writes(0, "b", 6)
	x.dirty(api.Dirty{Block: 0, First: 6, Last: 6})
}

// TestEdgeChanges: 0 is safe from the beginning, the greatest one just when it is told (P9.3, P9.5, P9.7).
func TestEdgeChanges(t *testing.T) {
	x := lay(t, 4, 3)
	x.writes(0, "a", topChange)
	x.writes(1, "b", 0)
	x.writes(2, "c", 1)
	x.dirty(api.Dirty{Block: 1}, api.Dirty{Block: 2, First: 1, Last: 1}, api.Dirty{Block: 0, First: topChange, Last: topChange})
	x.cleans(9, 1, api.OK)
	x.heard(writeOf(1, "b"))
	x.c.Safe(0)
	x.cleans(9, 0, api.OK)
	x.c.Safe(topChange - 1)
	x.cleans(9, 1, api.OK)
	x.heard(writeOf(2, "c"))
	want(t, "Flush", x.c.Flush(), api.ErrAhead)
	x.c.Safe(topChange)
	x.c.Safe(0)
	want(t, "Flush", x.c.Flush(), api.OK)
	x.heard(flush(), writeOf(0, "a"), flush())
	x.writes(3, "d", topChange)
	x.cleans(9, 1, api.OK)
}

// TestSafe: up to this one, this one too; a lesser one does nothing; it writes nothing (P9.5).
func TestSafe(t *testing.T) {
	x := lay(t, 3, 3)
	for b, change := range []uint64{6, 5, 7} {
		x.writes(b, "w", change)
	}
	x.c.Safe(4)
	x.cleans(9, 0, api.OK)
	x.c.Safe(6)
	x.c.Safe(5)
	x.c.Safe(0)
	x.heard()
	x.cleans(9, 2, api.OK)
	x.heard(writeOf(1, "w"), writeOf(0, "w"))
	x.writes(0, "v", 6)
	x.cleans(9, 1, api.OK)
	x.c.Safe(7)
	x.cleans(9, 1, api.OK)
	x.held(1, 2, 0)
}

// TestPin: held as often as it was pinned, and read just if it is not there (P9.4, P9.7).
func TestPin(t *testing.T) {
	x := lay(t, 3, 2)
	x.pins(1, 1, 1)
	x.heard(readOf(1))
	x.hits(2, 1)
	x.writes(1, "b", 2)
	x.dirty(api.Dirty{Block: 1, First: 2, Last: 2, Pins: 3})
	for n := 2; n >= 0; n-- {
		want(t, "Drop", x.c.Drop(1), api.ErrPinned)
		want(t, "Unpin", x.c.Unpin(1), api.OK)
		x.dirty(api.Dirty{Block: 1, First: 2, Last: 2, Pins: n})
	}
	want(t, "Unpin", x.c.Unpin(1), api.ErrUnpin)
	want(t, "Unpin", x.c.Unpin(0), api.ErrUnpin)
	x.dirty(api.Dirty{Block: 1, First: 2, Last: 2})
	x.reads(0, "home A")
	x.pins(1)
	x.held(0, 1)
	want(t, "Unpin", x.c.Unpin(1), api.OK)
	x.reads(0, "home A")
	x.held(1, 0)
	x.heard(readOf(0))
}

// TestUnpinIsNoUse: neither is a refused one (P9.4, P9.7).
func TestUnpinIsNoUse(t *testing.T) {
	x := lay(t, 3, 3)
	x.pins(0, 1, 2)
	want(t, "Unpin", x.c.Unpin(0), api.OK)
	x.held(0, 1, 2)
	want(t, "Unpin", x.c.Unpin(0), api.ErrUnpin)
	x.held(0, 1, 2)
	x.hits(0, 3)
}

// TestDrop: dirty or not, its changes are lost; not a held one; nothing is written (P9.8, P9.9).
func TestDrop(t *testing.T) {
	x := lay(t, 4, 3)
	want(t, "Drop of a missing one", x.c.Drop(0), api.OK)
	x.writes(0, "a", 1)
	x.reads(1, "home B")
	x.writes(2, "c", 2)
	x.c.Safe(9)
	x.heard(readOf(1))
	want(t, "Drop of a dirty one", x.c.Drop(0), api.OK)
	x.held(1, 2)
	x.dirty(api.Dirty{Block: 2, First: 2, Last: 2})
	want(t, "Drop", x.c.Drop(1), api.OK)
	want(t, "Drop again", x.c.Drop(1), api.OK)
	x.held(2)
	x.pins(2)
	want(t, "Drop of a held one", x.c.Drop(2), api.ErrPinned)
	x.held(2)
	x.dirty(api.Dirty{Block: 2, First: 2, Last: 2, Pins: 1})
	x.heard()
	x.reads(0, "home A")
	x.heard(readOf(0))
	x.hits(1, 2)
	want(t, "Unpin", x.c.Unpin(2), api.OK)
	want(t, "Drop", x.c.Drop(2), api.OK)
	x.dirty()
	x.reads(2, "home C")
}

// TestDropMakesRoom: a place is free then (P9.8, P9.6).
func TestDropMakesRoom(t *testing.T) {
	x := lay(t, 3, 2)
	x.writes(0, "a", 1)
	x.writes(1, "b", 2)
	x.unread(2, api.ErrAhead)
	want(t, "Drop of a missing one", x.c.Drop(2), api.OK)
	x.unread(2, api.ErrAhead)
	want(t, "Drop", x.c.Drop(0), api.OK)
	x.reads(2, "home C")
	x.held(1, 2)
	x.lies(0, "home A")
}

// TestNil: what a nil Cache answers (P9.8).
func TestNil(t *testing.T) {
	x := table{t: t}
	for _, b := range []int{leastInt, -1, 0, greatestInt} {
		x.unread(b, api.ErrNone)
		want(t, "Write", x.c.Write(b, nil, 1), api.ErrNone)
		want(t, "Write of too many bytes", x.c.Write(b, make([]byte, 385), 1), api.ErrNone)
		want(t, "Pin", x.c.Pin(b), api.ErrNone)
		want(t, "Unpin", x.c.Unpin(b), api.ErrNone)
		want(t, "Drop", x.c.Drop(b), api.ErrNone)
		x.cleans(b, 0, api.ErrNone)
	}
	x.c.Safe(3)
	want(t, "Flush", x.c.Flush(), api.ErrNone)
	x.held()
	x.dirty()
	x.hits(0, 0)
}
