package alloc_test

import (
	"encoding/hex"
	"fmt"
	"slices"
	"testing"

	"granary/alloc"
	"granary/api"
)

// ledger is an allocator in the chapter's words: the blocks that are committed as used, those that the transaction has taken and given, and those that are held, each in the order in which they came.
type ledger struct {
	blocks                   int
	used, taken, given, held []int
	reserved, holding        int
}

// newLedger has those blocks used whose bit is set.
func newLedger(blocks int, bitmap []byte) *ledger {
	l := &ledger{blocks: blocks}
	for b := range blocks {
		if bitmap[b/8]&(1<<(b%8)) != 0 {
			l.used = append(l.used, b)
		}
	}
	return l
}

// copied is a ledger like it.
func (l *ledger) copied() *ledger {
	out := *l
	out.used, out.taken = slices.Clone(l.used), slices.Clone(l.taken)
	out.given, out.held = slices.Clone(l.given), slices.Clone(l.held)
	return &out
}

// without is a list without the block.
func without(list []int, b int) []int {
	return slices.DeleteFunc(slices.Clone(list), func(x int) bool { return x == b })
}

// rising is a list in order.
func rising(list []int) []int {
	out := slices.Clone(list)
	slices.Sort(out)
	return out
}

// state is P10.2. A given block is among the used ones until it is committed.
func (l *ledger) state(b int) int {
	switch {
	case b < 0 || b >= l.blocks:
		return -1
	case slices.Contains(l.given, b):
		return api.BlockGiven
	case slices.Contains(l.used, b):
		return api.BlockUsed
	case slices.Contains(l.taken, b):
		return api.BlockTaken
	case slices.Contains(l.held, b):
		return api.BlockHeld
	}
	return api.BlockFree
}

// free is P10.2.
func (l *ledger) free() int { return l.blocks - len(l.used) - len(l.taken) - len(l.held) }

// take is P10.3; with reserved it is TakeReserved.
func (l *ledger) take(from int, reserved bool) (int, api.Errno) {
	if l.state(from) == -1 {
		return 0, api.ErrArg
	}
	if reserved && l.reserved == 0 || !reserved && l.free() <= l.reserved {
		return 0, api.ErrSpace
	}
	if reserved {
		l.reserved--
	}
	b := from
	for l.state(b) != api.BlockFree {
		b = (b + 1) % l.blocks
	}
	l.taken = append(l.taken, b)
	return b, api.OK
}

// give is P10.4.
func (l *ledger) give(b int) api.Errno {
	switch l.state(b) {
	case -1:
		return api.ErrArg
	case api.BlockUsed:
		l.given = append(l.given, b)
	case api.BlockTaken:
		l.taken = without(l.taken, b)
	default:
		return api.ErrState
	}
	return api.OK
}

// mark is P10.4.
func (l *ledger) mark(b int) api.Errno {
	switch {
	case l.state(b) == -1:
		return api.ErrArg
	case l.state(b) != api.BlockFree || l.free() <= l.reserved:
		return api.ErrState
	}
	l.taken = append(l.taken, b)
	return api.OK
}

// reserve is P10.5.
func (l *ledger) reserve(n int) api.Errno {
	switch {
	case n < 0:
		return api.ErrArg
	case n > l.free()-l.reserved:
		return api.ErrSpace
	}
	l.reserved += n
	return api.OK
}

// release is P10.5.
func (l *ledger) release(n int) api.Errno {
	if n < 0 || n > l.reserved {
		return api.ErrArg
	}
	l.reserved -= n
	return api.OK
}

// commit is P10.6.
func (l *ledger) commit() ([]int, []int) {
	taken, given := rising(l.taken), rising(l.given)
	for _, b := range given {
		l.used = without(l.used, b)
	}
	l.used = append(l.used, taken...)
	if l.holding > 0 {
		l.held = append(l.held, given...)
	}
	l.taken, l.given = nil, nil
	return taken, given
}

// letGo is P10.6.
func (l *ledger) letGo() []int {
	if l.holding == 0 {
		return nil
	}
	l.holding--
	if l.holding > 0 {
		return nil
	}
	out := rising(l.held)
	l.held = nil
	return out
}

// bitmap is P10.7.
func (l *ledger) bitmap() []byte {
	out := make([]byte, (l.blocks+7)/8)
	for _, b := range l.used {
		out[b/8] |= 1 << (b % 8)
	}
	return out
}

// seen is all that the chapter's words tell of it now.
func (l *ledger) seen() sight {
	out := sight{
		bitmap: hex.EncodeToString(l.bitmap()), blocks: l.blocks, free: l.free(), reserved: l.reserved, holds: l.holding,
		taken: l.taken, given: l.given,
	}
	first := -1
	for b := range l.blocks + 1 {
		if b < l.blocks {
			s := l.state(b)
			out.letters += "futgh"[s : s+1]
		}
		switch {
		case l.state(b) == api.BlockFree && first < 0:
			first = b
		case l.state(b) != api.BlockFree && first >= 0:
			out.lengths = append(out.lengths, first, b-first)
			first = -1
		}
	}
	return out
}

// step is a call of an allocator: which, and with which number.
type step struct {
	kind string
	n    int
}

// answer is what a call answered.
type answer struct {
	n     int
	e     api.Errno
	lists string
}

// plainly is the step on a ledger.
func (l *ledger) plainly(s step) answer {
	var out answer
	switch s.kind {
	case "Take":
		out.n, out.e = l.take(s.n, false)
	case "TakeReserved":
		out.n, out.e = l.take(s.n, true)
	case "Give":
		out.e = l.give(s.n)
	case "Mark":
		out.e = l.mark(s.n)
	case "Reserve":
		out.e = l.reserve(s.n)
	case "Release":
		out.e = l.release(s.n)
	case "Commit":
		taken, given := l.commit()
		out.lists = fmt.Sprint(taken, given)
	case "Abort":
		l.taken, l.given = nil, nil
	case "Hold":
		l.holding++
	case "LetGo":
		out.lists = fmt.Sprint(l.letGo())
	}
	return out
}

// really is the step on an allocator.
func really(a *alloc.Alloc, s step) answer {
	var out answer
	switch s.kind {
	case "Take":
		out.n, out.e = a.Take(s.n)
	case "TakeReserved":
		out.n, out.e = a.TakeReserved(s.n)
	case "Give":
		out.e = a.Give(s.n)
	case "Mark":
		out.e = a.Mark(s.n)
	case "Reserve":
		out.e = a.Reserve(s.n)
	case "Release":
		out.e = a.Release(s.n)
	case "Commit":
		taken, given := a.Commit()
		out.lists = fmt.Sprint(taken, given)
	case "Abort":
		a.Abort()
	case "Hold":
		a.Hold()
	case "LetGo":
		out.lists = fmt.Sprint(a.LetGo())
	}
	return out
}

// both is an allocator, and a ledger beside it.
type both struct {
	desk
	l *ledger
}

// do makes the step on both, and holds them against each other: what is answered, and all that is told.
func (x both) do(s step) {
	x.t.Helper()
	wanted, got := x.l.plainly(s), really(x.a, s)
	if got != wanted {
		x.t.Errorf("%v: %v, want %v", s, got, wanted)
	}
	x.is("what is told", x.l.seen())
	if x.t.Failed() {
		x.t.Fatalf("behind %v", s)
	}
}

// copied is both copied.
func (x both) copied() both {
	return both{desk{x.t, x.a.Copy()}, x.l.copied()}
}

// TestShortAccounts: all lists of five of some steps, on New's and on Load's allocators of two and of three blocks (P10.2 to P10.7).
func TestShortAccounts(t *testing.T) {
	steps := []step{
		{"Take", 1}, {"TakeReserved", 0}, {"Give", 0}, {"Give", 1}, {"Mark", 0},
		{"Reserve", 1}, {"Release", 1}, {"Commit", 0}, {"Abort", 0}, {"Hold", 0}, {"LetGo", 0},
	}
	var walk func(x both, left int)
	walk = func(x both, left int) {
		for _, s := range steps {
			next := x.copied()
			next.do(s)
			if left > 1 {
				walk(next, left-1)
			}
		}
	}
	const length = 5
	walk(both{made(t, 2), newLedger(2, []byte{0})}, length)
	walk(both{loaded(t, 3, 0x03), newLedger(3, []byte{0x03})}, length)
}

// kinds is the calls of a drawn script, some more often than others.
func kinds() []string {
	return []string{
		"Take", "Take", "Take", "Take", "TakeReserved", "TakeReserved", "Give", "Give", "Give", "Give", "Mark", "Mark",
		"Reserve", "Release", "Commit", "Commit", "Abort", "Hold", "LetGo",
	}
}

// drawn is a step of a script on so many blocks.
func drawn(dice *dice, blocks int) step {
	all := kinds()
	s := step{kind: all[dice.below(len(all))], n: dice.below(blocks)}
	switch s.kind {
	case "Reserve", "Release":
		s.n = dice.below(1+blocks/4) + dice.below(3) - 1
	}
	if dice.below(40) == 0 {
		l := nowhere(blocks)
		s.n = l[dice.below(len(l))]
	}
	return s
}

// eachBeginning calls do with New's allocator and with some of Load's, of 1 to 70 blocks.
func eachBeginning(t *testing.T, dice *dice, do func(x both)) {
	t.Helper()
	for blocks := 1; blocks <= 70; blocks++ {
		do(both{made(t, blocks), newLedger(blocks, make([]byte, 9))})
		for range 2 {
			bitmap := dice.bitmap(blocks)
			do(both{loaded(t, blocks, bitmap...), newLedger(blocks, bitmap)})
		}
	}
}

// TestDrawnAccounts: long lists of all calls (P10.2 to P10.7).
func TestDrawnAccounts(t *testing.T) {
	dice := dice(10)
	eachBeginning(t, &dice, func(x both) {
		for range 300 {
			x.do(drawn(&dice, x.l.blocks))
		}
	})
}
