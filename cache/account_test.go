package cache_test

import (
	"fmt"
	"slices"
	"sort"
	"testing"

	"granary/api"
	"granary/cache"
)

// card is a block in a ledger.
type card struct {
	block       int
	data        string
	dirty       bool
	first, last uint64
	pins        int
}

// ledger is a cache in the chapter's words. Its cards lie by their last use, the longest ago first.
type ledger struct {
	d             *shelf
	places        int
	cards         []card
	safe          uint64
	found, missed int
}

// at is the place of a block's card, or -1.
func (l *ledger) at(b int) int {
	return slices.IndexFunc(l.cards, func(x card) bool { return x.block == b })
}

// used lays the card behind all others.
func (l *ledger) used(x card) {
	if i := l.at(x.block); i >= 0 {
		l.cards = slices.Delete(l.cards, i, i+1)
	}
	l.cards = append(l.cards, x)
}

// arg: there is no such block.
func (l *ledger) arg(b int) bool { return b < 0 || b > l.d.Len()-1 }

// home writes the card home: P9.6.
func (l *ledger) home(i int) api.Errno {
	e := l.d.Write(l.cards[i].block, []byte(l.cards[i].data))
	if e == api.OK {
		l.cards[i].dirty = false
	}
	return e
}

// room is P9.6.
func (l *ledger) room() api.Errno {
	if len(l.cards) != l.places {
		return api.OK
	}
	held := 0
	for i, x := range l.cards {
		if x.pins > 0 {
			held++
			continue
		}
		if x.dirty && x.last > l.safe {
			continue
		}
		if x.dirty {
			if e := l.home(i); e != api.OK {
				return e
			}
		}
		l.cards = slices.Delete(l.cards, i, i+1)
		return api.OK
	}
	if held == l.places {
		return api.ErrPinned
	}
	return api.ErrAhead
}

// read is P9.2; with a pin it is P9.4.
func (l *ledger) read(b, pin int) (string, api.Errno) {
	if l.arg(b) {
		return "", api.ErrArg
	}
	var x card
	if i := l.at(b); i >= 0 {
		l.found++
		x = l.cards[i]
	} else {
		if e := l.room(); e != api.OK {
			return "", e
		}
		p, e := l.d.Read(b)
		if e != api.OK {
			return "", e
		}
		l.missed++
		x = card{block: b, data: string(p)}
	}
	x.pins += pin
	l.used(x)
	return x.data, api.OK
}

// write is P9.3.
func (l *ledger) write(b int, text string, change uint64) api.Errno {
	if l.arg(b) {
		return api.ErrArg
	}
	if len(text) > 384 {
		return api.ErrLong
	}
	x := card{block: b}
	if i := l.at(b); i >= 0 {
		x = l.cards[i]
	} else if e := l.room(); e != api.OK {
		return e
	}
	if !x.dirty {
		x.first = change
	}
	x.data, x.dirty, x.last = padded(text), true, change
	l.used(x)
	return api.OK
}

// unpin is P9.4.
func (l *ledger) unpin(b int) api.Errno {
	i := l.at(b)
	if i < 0 || l.cards[i].pins == 0 {
		return api.ErrUnpin
	}
	l.cards[i].pins--
	return api.OK
}

// drop is P9.8.
func (l *ledger) drop(b int) api.Errno {
	i := l.at(b)
	switch {
	case l.arg(b):
		return api.ErrArg
	case i < 0:
		return api.OK
	case l.cards[i].pins > 0:
		return api.ErrPinned
	}
	l.cards = slices.Delete(l.cards, i, i+1)
	return api.OK
}

// dirty is P9.7.
func (l *ledger) dirty() []api.Dirty {
	var out []api.Dirty
	for _, x := range l.cards {
		if x.dirty {
			out = append(out, api.Dirty{Block: x.block, First: x.first, Last: x.last, Pins: x.pins})
		}
	}
	sort.Slice(out, func(i, j int) bool {
		if out[i].First != out[j].First {
			return out[i].First < out[j].First
		}
		return out[i].Block < out[j].Block
	})
	return out
}

// clean is P9.6.
func (l *ledger) clean(most int) (int, api.Errno) {
	n := 0
	for _, x := range l.dirty() {
		if x.Last > l.safe || n >= most {
			continue
		}
		if e := l.home(l.at(x.Block)); e != api.OK {
			return n, e
		}
		n++
	}
	return n, api.OK
}

// flush is P9.6.
func (l *ledger) flush() api.Errno {
	if _, e := l.clean(1000); e != api.OK {
		return e
	}
	if e := l.d.Flush(); e != api.OK {
		return e
	}
	if len(l.dirty()) > 0 {
		return api.ErrAhead
	}
	return api.OK
}

// held is P9.7.
func (l *ledger) held() []int {
	var out []int
	for _, x := range l.cards {
		out = append(out, x.block)
	}
	return out
}

// step is a call of a cache: which, of which block or with which number, which change, how many bytes, and at which of home's calls home fails.
type step struct {
	kind   string
	n      int
	change uint64
	bytes  int
	fails  int
	late   bool
}

// text is the bytes of a Write: others of each step of a script.
func (s step) text(number int) string {
	return (fmt.Sprint(number, " ") + string(make([]byte, 400)))[:s.bytes]
}

// answer is what a call answered.
type answer struct {
	data string
	n    int
	e    api.Errno
}

// plainly is the step on a ledger.
func (l *ledger) plainly(s step, number int) answer {
	var out answer
	switch s.kind {
	case "Read":
		out.data, out.e = l.read(s.n, 0)
	case "Pin":
		_, out.e = l.read(s.n, 1)
	case "Write":
		out.e = l.write(s.n, s.text(number), s.change)
	case "Unpin":
		out.e = l.unpin(s.n)
	case "Safe":
		l.safe = max(l.safe, s.change)
	case "Clean":
		out.n, out.e = l.clean(s.n)
	case "Flush":
		out.e = l.flush()
	case "Drop":
		out.e = l.drop(s.n)
	}
	return out
}

// really is the step on a cache.
func really(c *cache.Cache, s step, number int) answer {
	var out answer
	switch s.kind {
	case "Read":
		p, e := c.Read(s.n)
		out.data, out.e = string(p), e
	case "Pin":
		out.e = c.Pin(s.n)
	case "Write":
		out.e = c.Write(s.n, []byte(s.text(number)), s.change)
	case "Unpin":
		out.e = c.Unpin(s.n)
	case "Safe":
		c.Safe(s.change)
	case "Clean":
		out.n, out.e = c.Clean(s.n)
	case "Flush":
		out.e = c.Flush()
	case "Drop":
		out.e = c.Drop(s.n)
	}
	return out
}

// both is a cache, and a ledger beside it, each on a shelf of its own.
type both struct {
	table
	l      *ledger
	number int
}

func newBoth(t *testing.T, blocks, places int) *both {
	t.Helper()
	x := lay(t, blocks, places)
	return &both{table: x, l: &ledger{d: x.d.copied(), places: places}}
}

// do makes the step on both, and holds them against each other: what is answered, which of home's calls came, and all that is told.
func (x *both) do(s step) {
	x.t.Helper()
	x.number++
	x.d.until, x.d.late = s.fails, s.late
	x.l.d.until, x.l.d.late = s.fails, s.late
	wanted, got := x.l.plainly(s, x.number), really(x.c, s, x.number)
	if got != wanted {
		x.t.Errorf("%v: %v, want %v", s, got, wanted)
	}
	x.heard(x.l.d.heard()...)
	x.held(x.l.held()...)
	x.dirty(x.l.dirty()...)
	x.hits(x.l.found, x.l.missed)
	if !slices.Equal(x.d.blocks, x.l.d.blocks) {
		x.t.Errorf("home is another")
	}
	if x.t.Failed() {
		x.t.Fatalf("behind the step %d, %v", x.number, s)
	}
}

// TestShortAccounts: all lists of four of some steps, with one place and with two (P9.2 to P9.8).
func TestShortAccounts(t *testing.T) {
	steps := []step{
		{kind: "Read", n: 0},
		{kind: "Read", n: 2, fails: 2},
		{kind: "Write", n: 0, change: 2, bytes: 9},
		{kind: "Write", n: 1, change: 1, bytes: 5},
		{kind: "Write", n: 2, change: 3, bytes: 384, fails: 1},
		{kind: "Pin", n: 1},
		{kind: "Pin", n: 2, fails: 1},
		{kind: "Unpin", n: 1},
		{kind: "Safe", change: 2},
		{kind: "Clean", n: 1},
		{kind: "Flush", fails: 2},
		{kind: "Drop", n: 1},
	}
	const length = 4
	total := 1
	for range length {
		total *= len(steps)
	}
	for places := 1; places <= 2; places++ {
		for number := range total {
			x := newBoth(t, 3, places)
			for rest, n := number, length; n > 0; rest, n = rest/len(steps), n-1 {
				x.do(steps[rest%len(steps)])
			}
		}
	}
}

// drawn is a step of a script on so many blocks; changes rise with the number of the step, but not always.
func drawn(dice *dice, blocks, number int) step {
	kinds := []string{"Read", "Read", "Read", "Write", "Write", "Write", "Write", "Pin", "Unpin", "Unpin", "Safe", "Safe", "Clean", "Flush", "Drop"}
	s := step{
		kind:   kinds[dice.below(len(kinds))],
		n:      dice.below(blocks),
		change: uint64(max(0, number/3+dice.below(9)-5)),
		bytes:  dice.below(30),
		fails:  max(0, dice.below(20)-17),
		late:   dice.below(2) == 0,
	}
	switch {
	case s.kind == "Clean":
		s.n = dice.below(5) - 1
	case dice.below(40) == 0:
		s.n = []int{-1, blocks, leastInt, greatestInt}[dice.below(4)]
	}
	if dice.below(25) == 0 {
		s.bytes = []int{0, 383, 384, 385}[dice.below(4)]
	}
	return s
}

// TestDrawnAccounts: long lists of all steps, with 1 to 5 places, and a home that fails at a drawn call (P9.2 to P9.8).
func TestDrawnAccounts(t *testing.T) {
	dice := dice(4)
	for places := 1; places <= 5; places++ {
		for blocks := 1; blocks <= 9; blocks += 2 {
			for range 20 {
				x := newBoth(t, blocks, places)
				for number := range 300 {
					x.do(drawn(&dice, blocks, number))
				}
			}
		}
	}
}
