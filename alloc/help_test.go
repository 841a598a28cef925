package alloc_test

import (
	"bytes"
	"encoding/hex"
	"slices"
	"testing"

	"granary/alloc"
	"granary/api"
)

// Numbers at the edges of their kind.
const (
	leastInt    = -1 << 63
	greatestInt = 1<<63 - 1
)

// nowhere is numbers that are no block's of so many.
func nowhere(blocks int) []int {
	return []int{leastInt, leastInt + 1, -65536, -8, -1, blocks, blocks + 1, blocks + 7, 1 << 32, greatestInt - 1, greatestInt}
}

// desk is an allocator in a test.
type desk struct {
	t *testing.T
	a *alloc.Alloc
}

// made is a new allocator.
func made(t *testing.T, blocks int) desk {
	t.Helper()
	a, e := alloc.New(blocks)
	if a == nil || e != api.OK {
		t.Fatalf("New(%d): %v, error %d", blocks, a, e)
	}
	return desk{t, a}
}

// loaded is an allocator whose used blocks stand in the bitmap.
func loaded(t *testing.T, blocks int, bitmap ...byte) desk {
	t.Helper()
	a, e := alloc.Load(blocks, bitmap)
	if a == nil || e != api.OK {
		t.Fatalf("Load(%d, %x): %v, error %d", blocks, bitmap, a, e)
	}
	return desk{t, a}
}

// colours is an allocator of so many blocks, of which each of the states has some: the block b has the state b % 5, and somebody holds.
func colours(t *testing.T, blocks int) desk {
	t.Helper()
	x := made(t, blocks)
	mark := func(state int) {
		for b := state; b < blocks; b += 5 {
			x.marks(b)
		}
	}
	give := func(state int) {
		for b := state; b < blocks; b += 5 {
			x.gives(b)
		}
	}
	mark(api.BlockUsed)
	mark(api.BlockGiven)
	mark(api.BlockHeld)
	x.a.Commit()
	x.a.Hold()
	give(api.BlockHeld)
	x.a.Commit()
	give(api.BlockGiven)
	mark(api.BlockTaken)
	for b := range blocks {
		x.state(b, b%5)
	}
	return x
}

// want: the error, and no other.
func want(t *testing.T, name string, got, e api.Errno) {
	t.Helper()
	if got != e {
		t.Errorf("%s: error %d, want %d", name, got, e)
	}
}

// takes: Take answers the block.
func (x desk) takes(from, b int) {
	x.t.Helper()
	if got, e := x.a.Take(from); got != b || e != api.OK {
		x.t.Errorf("Take(%d): %d, error %d, want %d", from, got, e, b)
	}
}

// takesNone: Take answers the error, and 0.
func (x desk) takesNone(from int, why api.Errno) {
	x.t.Helper()
	if got, e := x.a.Take(from); got != 0 || e != why {
		x.t.Errorf("Take(%d): %d, error %d, want error %d", from, got, e, why)
	}
}

// takesReserved: TakeReserved answers the block.
func (x desk) takesReserved(from, b int) {
	x.t.Helper()
	if got, e := x.a.TakeReserved(from); got != b || e != api.OK {
		x.t.Errorf("TakeReserved(%d): %d, error %d, want %d", from, got, e, b)
	}
}

// takesNoneReserved: TakeReserved answers the error, and 0.
func (x desk) takesNoneReserved(from int, why api.Errno) {
	x.t.Helper()
	if got, e := x.a.TakeReserved(from); got != 0 || e != why {
		x.t.Errorf("TakeReserved(%d): %d, error %d, want error %d", from, got, e, why)
	}
}

// gives: the blocks are given, one behind the other.
func (x desk) gives(blocks ...int) {
	x.t.Helper()
	for _, b := range blocks {
		want(x.t, "Give", x.a.Give(b), api.OK)
	}
}

// marks: the blocks are marked, one behind the other.
func (x desk) marks(blocks ...int) {
	x.t.Helper()
	for _, b := range blocks {
		want(x.t, "Mark", x.a.Mark(b), api.OK)
	}
}

// reserves: room for so many is reserved.
func (x desk) reserves(n int) {
	x.t.Helper()
	want(x.t, "Reserve", x.a.Reserve(n), api.OK)
}

// state: the block is in that state.
func (x desk) state(b, state int) {
	x.t.Helper()
	if got := x.a.State(b); got != state {
		x.t.Errorf("State(%d): %d, want %d", b, got, state)
	}
}

// states: the blocks are in these states, one letter a block: f, u, t, g, h.
func (x desk) states(letters string) {
	x.t.Helper()
	if got := x.letters(); got != letters {
		x.t.Errorf("the states are %s, want %s", got, letters)
	}
}

// letters is the states of all blocks.
func (x desk) letters() string {
	out := ""
	for b := range x.a.Blocks() {
		s := x.a.State(b)
		if s < 0 || s > 4 {
			x.t.Fatalf("State(%d): %d", b, s)
		}
		out += "futgh"[s : s+1]
	}
	return out
}

// counts: so many blocks are free, and so many reserved.
func (x desk) counts(free, reserved int) {
	x.t.Helper()
	if f, r := x.a.Free(), x.a.Reserved(); f != free || r != reserved {
		x.t.Errorf("Free %d, Reserved %d, want %d and %d", f, r, free, reserved)
	}
}

// holds: so many hold.
func (x desk) holds(n int) {
	x.t.Helper()
	if got := x.a.Holds(); got != n {
		x.t.Errorf("Holds: %d, want %d", got, n)
	}
}

// told: the list, in this order.
func told[T comparable](t *testing.T, name string, got []T, wanted ...T) {
	t.Helper()
	if !slices.Equal(got, wanted) {
		t.Errorf("%s: %v, want %v", name, got, wanted)
	}
}

// commits: Commit answers these lists.
func (x desk) commits(taken, given []int) {
	x.t.Helper()
	a, b := x.a.Commit()
	told(x.t, "Commit's taken", a, taken...)
	told(x.t, "Commit's given", b, given...)
}

// bitmap: these bytes.
func (x desk) bitmap(wanted ...byte) {
	x.t.Helper()
	if got := x.a.Bitmap(); !bytes.Equal(got, wanted) {
		x.t.Errorf("Bitmap: %x, want %x", got, wanted)
	}
}

// sight is all that an allocator tells of itself.
type sight struct {
	letters, bitmap       string
	blocks, free          int
	reserved, holds       int
	taken, given, lengths []int
}

// seen is all that the allocator tells now.
func (x desk) seen() sight {
	x.t.Helper()
	out := sight{
		letters: x.letters(), bitmap: hex.EncodeToString(x.a.Bitmap()),
		blocks: x.a.Blocks(), free: x.a.Free(), reserved: x.a.Reserved(), holds: x.a.Holds(),
		taken: x.a.Taken(), given: x.a.Given(),
	}
	for _, r := range x.a.Runs() {
		out.lengths = append(out.lengths, r[0], r[1])
	}
	return out
}

// same: two sights are alike.
func (s sight) same(o sight) bool {
	return s.letters == o.letters && s.bitmap == o.bitmap && s.blocks == o.blocks && s.free == o.free &&
		s.reserved == o.reserved && s.holds == o.holds && slices.Equal(s.taken, o.taken) &&
		slices.Equal(s.given, o.given) && slices.Equal(s.lengths, o.lengths)
}

// is: the allocator tells just what was seen.
func (x desk) is(name string, wanted sight) {
	x.t.Helper()
	if got := x.seen(); !got.same(wanted) {
		x.t.Errorf("%s: %+v, want %+v", name, got, wanted)
	}
}

// stays: what is done changes nothing that the allocator tells.
func (x desk) stays(name string, do func()) {
	x.t.Helper()
	before := x.seen()
	do()
	x.is(name, before)
}

// upTo is the numbers 0 to n - 1.
func upTo(n int) []int {
	var out []int
	for i := range n {
		out = append(out, i)
	}
	return out
}

// dice is numbers that look thrown, the same ones each time.
type dice uint64

// below is the next number, of 0 to n - 1.
func (d *dice) below(n int) int {
	*d = *d*6364136223846793005 + 1442695040888963407
	return int(uint64(*d) >> 33 % uint64(n))
}

// bitmap is a drawn bitmap of so many blocks.
func (d *dice) bitmap(blocks int) []byte {
	out := make([]byte, (blocks+7)/8)
	for b := range blocks {
		out[b/8] |= byte(d.below(2) << (b % 8))
	}
	return out
}

// spoil writes over all of a list, its spare room too.
func spoil[T any](l []T, with T) {
	l = l[:cap(l)]
	for i := range l {
		l[i] = with
	}
}
