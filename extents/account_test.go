package extents_test

import (
	"fmt"
	"maps"
	"slices"
	"testing"

	"granary/api"
	"granary/btree"
	"granary/extents"
)

// Here stands what the chapter's words say, byte by byte and without the package: the tests hold the package against it.

// file is a content: the bytes that were written, and the pieces that are there. One that stands in files is never changed, but another one put in its place.
type file struct {
	bytes map[uint64]byte
	there map[int]struct{}
}

// files is contents by their numbers.
type files map[uint64]file

// copied is the file in new memory.
func (f file) copied() file {
	out := file{map[uint64]byte{}, map[int]struct{}{}}
	maps.Copy(out.bytes, f.bytes)
	maps.Copy(out.there, f.there)
	return out
}

// read is P14.2.
func (f file) read(at uint64, n int) string {
	out := make([]byte, n)
	for i := range out {
		out[i] = f.bytes[at+uint64(i)]
	}
	return string(out)
}

// written is P14.3.
func (f file) written(at uint64, p string) file {
	out := f.copied()
	for i := range len(p) {
		place := at + uint64(i)
		out.bytes[place] = p[i]
		out.there[int(place/384)] = struct{}{}
	}
	return out
}

// cut is P14.4.
func (f file) cut(size uint64) file {
	out := f.copied()
	maps.DeleteFunc(out.bytes, func(at uint64, _ byte) bool { return at >= size })
	maps.DeleteFunc(out.there, func(i int, _ struct{}) bool { return uint64(i)*384 >= size })
	return out
}

// pieces is P14.5.
func (f file) pieces() []int { return slices.Sorted(maps.Keys(f.there)) }

// stretches is P14.5.
func (f file) stretches() [][2]int {
	var out [][2]int
	for _, i := range f.pieces() {
		if _, ahead := f.there[i-1]; ahead {
			continue
		}
		n := 1
		for ; ; n++ {
			if _, is := f.there[i+n]; !is {
				break
			}
		}
		out = append(out, [2]int{i, n})
	}
	return out
}

// numbers is P14.5.
func (l files) numbers() []uint64 {
	var out []uint64
	for ino, f := range l {
		if len(f.there) > 0 {
			out = append(out, ino)
		}
	}
	slices.Sort(out)
	return out
}

// count is how many pieces are there in all.
func (l files) count() int {
	sum := 0
	for _, f := range l {
		sum += len(f.there)
	}
	return sum
}

// account is contents: those of the tree of Open, those that are there now, and the error.
type account struct {
	first, now files
	why        api.Errno
}

// newAccount is contents that were opened on these.
func newAccount(first files) *account { return &account{first: first, now: maps.Clone(first)} }

// call is one of the contents' calls: which, and with what. Cut has its size in at. Abort aborts the contents, then the batch, and Undo the other way round.
type call struct {
	kind string
	ino  uint64
	at   uint64
	n    int
	p    string
}

// fault is the error that a call makes by itself.
func (c call) fault() api.Errno {
	above := func(n int) bool {
		return c.at > 1048576 || n > 1048576 || c.at+uint64(n) > 1048576
	}
	switch {
	case c.kind == "Read" && c.n < 0:
		return api.ErrArg
	case c.kind == "Read" && above(c.n):
		return api.ErrLong
	case c.kind == "Write" && above(len(c.p)):
		return api.ErrLong
	}
	return api.OK
}

// plainly is the call on the account, and what it answers.
func (a *account) plainly(c call) string {
	if c.kind == "Abort" || c.kind == "Undo" {
		*a = *newAccount(a.first)
		return "0 0"
	}
	if a.why == api.OK {
		a.why = c.fault()
	}
	if a.why != api.OK {
		return nothing(c.kind)
	}
	f := a.now[c.ino]
	switch c.kind {
	case "Read":
		return fmt.Sprintf("%q", f.read(c.at, c.n))
	case "Write":
		a.now[c.ino] = f.written(c.at, c.p)
	case "Cut":
		a.now[c.ino] = f.cut(c.at)
	case "Drop":
		delete(a.now, c.ino)
	case "Count":
		return fmt.Sprint(len(f.there))
	case "Pieces":
		return fmt.Sprint(f.pieces())
	case "Stretches":
		return fmt.Sprint(f.stretches())
	case "Numbers":
		return fmt.Sprint(a.now.numbers())
	}
	return ""
}

// nothing is what a call answers behind an error.
func nothing(kind string) string {
	switch kind {
	case "Read":
		return `""`
	case "Count":
		return "0"
	case "Pieces", "Stretches", "Numbers":
		return "[]"
	}
	return ""
}

// really is the call on contents and their batch, and what it answers.
func really(b *btree.Batch, c *extents.Contents, x call) string {
	switch x.kind {
	case "Abort":
		e := c.Abort()
		return fmt.Sprintf("%d %d", e, b.Abort())
	case "Undo":
		e := b.Abort()
		return fmt.Sprintf("%d %d", e, c.Abort())
	case "Read":
		return fmt.Sprintf("%q", c.Read(x.ino, x.at, x.n))
	case "Write":
		c.Write(x.ino, x.at, []byte(x.p))
	case "Cut":
		c.Cut(x.ino, x.at)
	case "Drop":
		c.Drop(x.ino)
	case "Count":
		return fmt.Sprint(c.Count(x.ino))
	case "Pieces":
		return fmt.Sprint(c.Pieces(x.ino))
	case "Stretches":
		return fmt.Sprint(c.Stretches(x.ino))
	case "Numbers":
		return fmt.Sprint(c.Numbers())
	}
	return ""
}

// both is contents on a batch, and an account beside them.
type both struct {
	t     *testing.T
	s     *room
	b     *btree.Batch
	c     *extents.Contents
	a     *account
	root  int   // the batch's first
	taken []int // when they were opened
}

// opened is both, on the tree of that root, which has those contents. All that is taken by then is others'.
func opened(t *testing.T, s *room, root int, has files) both {
	t.Helper()
	s.freeze()
	b := btree.Open(s, root)
	c := extents.Open(b, s)
	if c == nil {
		t.Fatalf("Open is nil")
	}
	return both{t, s, b, c, newAccount(has), root, s.taken()}
}

// begun is both, on a new tree without contents.
func begun(t *testing.T, s *room) both {
	t.Helper()
	return opened(t, s, planted(t, s), files{})
}

// next is both, on the tree as it is now; the older one stays.
func (x both) next() both {
	x.t.Helper()
	want(x.t, "Why", x.c.Why(), api.OK)
	return opened(x.t, x.s, x.b.Root(), x.a.now)
}

// settled is next, where nobody needs the older tree any more: then just what the tree and its contents have is taken (P14.9).
func (x both) settled() both {
	x.t.Helper()
	x.s.giveBack(x.b.Gone())
	x.s.giveBack(x.c.Gone())
	out := x.next()
	told(x.t, "what is taken when Gone is given back", x.s.taken(), union(blocksOf(x.t, x.s, out.root), out.c.Blocks())...)
	return out
}

// do makes the calls on both, and holds them against each other.
func (x both) do(calls ...call) {
	x.t.Helper()
	for _, c := range calls {
		wanted, got := x.a.plainly(c), really(x.b, x.c, c)
		if got != wanted || x.c.Why() != x.a.why {
			x.t.Fatalf("%s: %.300s, error %d, want %.300s, error %d", brief(c), got, x.c.Why(), wanted, x.a.why)
		}
	}
}

// ask holds what the contents tell of one content against the account, the places beside its pieces too.
func (x both) ask(ino uint64) {
	x.t.Helper()
	x.do(call{kind: "Count", ino: ino}, call{kind: "Pieces", ino: ino}, call{kind: "Stretches", ino: ino})
	for _, l := range x.a.now[ino].stretches() {
		from := max(l[0]*size-1, 0)
		to := min((l[0]+l[1])*size+1, api.MaxFile)
		x.do(call{kind: "Read", ino: ino, at: uint64(from), n: to - from})
	}
}

// askAll holds what they tell of all contents against the account.
func (x both) askAll() {
	x.t.Helper()
	for ino := range x.a.now {
		x.ask(ino)
	}
	x.do(call{kind: "Numbers"})
}

// held holds all that the contents tell against the account, and their blocks against P14.6, P14.9 and P14.11.
func (x both) held() {
	x.t.Helper()
	want(x.t, "Why", x.c.Why(), x.a.why)
	if x.a.why != api.OK {
		x.nothingTold()
		return
	}
	x.askAll()
	first, now := extents.Open(btree.Open(x.s, x.root), x.s).Blocks(), x.c.Blocks()
	if len(first) != x.a.first.count() || len(now) != x.a.now.count() {
		x.t.Errorf("Blocks of %d and %d pieces: %v, %v", x.a.first.count(), x.a.now.count(), first, now)
	}
	told(x.t, "Blocks", now, union(now)...)
	told(x.t, "Gone", x.c.Gone(), minus(first, now)...)
	told(x.t, "Fresh", x.c.Fresh(), minus(now, first)...)
	told(x.t, "what is taken", x.s.taken(), union(x.taken, x.b.Fresh(), x.c.Fresh())...)
	if len(union(x.taken, x.b.Fresh(), x.c.Fresh())) != len(x.taken)+len(x.b.Fresh())+len(x.c.Fresh()) {
		x.t.Errorf("two have one block: %v, %v, %v", x.taken, x.b.Fresh(), x.c.Fresh())
	}
	if !maps.Equal(theirs(x.b), others()) {
		x.t.Errorf("others' keys have changed")
	}
	if x.t.Failed() {
		x.t.FailNow()
	}
}

// nothingTold: behind an error all lists are none (P14.1).
func (x both) nothingTold() {
	x.t.Helper()
	for _, kind := range []string{"Read", "Count", "Pieces", "Stretches", "Numbers"} {
		x.do(call{kind: kind, n: 1})
	}
	told(x.t, "Blocks", x.c.Blocks())
	told(x.t, "Gone", x.c.Gone())
	told(x.t, "Fresh", x.c.Fresh())
}

// backAt: both were aborted, and are as they were opened (P14.7, P14.9).
func (x both) backAt(before map[int]string) {
	x.t.Helper()
	if x.b.Root() != x.root || !maps.Equal(x.s.bytes(), before) {
		x.t.Fatalf("the root is %d, want %d; the blocks %v are taken, want %v", x.b.Root(), x.root, x.s.taken(), x.taken)
	}
	told(x.t, "Gone", x.c.Gone())
	told(x.t, "Fresh", x.c.Fresh())
	x.held()
}

// inos is numbers of contents: the edges, and neighbours of which one's bytes are greater by a carry.
func inos() []uint64 {
	return []uint64{0, 1, 2, 255, 256, 1<<32 - 1, 1 << 32, 0x7878787878787878, 1 << 63, greatest - 1, greatest}
}

// drawnPlace is a place of a content: mostly near a border of one of the first pieces, now and then at the end of all.
func drawnPlace(d *dice) uint64 {
	switch d.below(12) {
	case 0:
		return uint64(api.MaxFile - d.below(800))
	case 1:
		return uint64(d.below(api.MaxFile))
	case 2, 3, 4:
		return uint64(d.below(12) * size)
	}
	return uint64(max(d.below(12)*size+d.below(9)-4, 0))
}

// drawnLength is how many bytes are read or written: no more than there is room for from at on.
func drawnLength(d *dice, at uint64) int {
	n := one(d, []int{0, 1, 2, 3, size - 1, size, size + 1, 2 * size, d.below(size), d.below(2000)})
	return min(n, api.MaxFile-int(at))
}

// drawnCall is a call on one of the contents; one of some hundreds has an error.
func drawnCall(d *dice, where []uint64) call {
	c := call{ino: one(d, where), at: drawnPlace(d)}
	c.n = drawnLength(d, c.at)
	c.kind = one(d, []string{"Write", "Write", "Write", "Write", "Cut", "Cut", "Drop", "Read", "Read", "Count", "Pieces", "Stretches", "Numbers"})
	if d.below(300) == 0 {
		c.at, c.n = one(d, []uint64{api.MaxFile - 1, api.MaxFile + 1, greatest}), one(d, []int{0, 3})
	}
	switch c.kind {
	case "Write":
		c.p, c.n = text(d.below(255), c.n), 0
		if d.below(6) == 0 {
			c.p = string(make([]byte, len(c.p)))
		}
	case "Drop":
		if d.below(3) > 0 {
			c.kind = "Cut"
		}
	case "Cut":
		if d.below(10) == 0 {
			c.at = one(d, []uint64{api.MaxFile, api.MaxFile + 1, 1 << 40, greatest})
		}
	}
	return c
}

// TestDrawn: drawn lists of calls over several contents in one batch and over several batches; each answer, and behind each batch the blocks (P14.2 to P14.10).
func TestDrawn(t *testing.T) {
	t.Parallel()
	d := dice(14)
	for _, s := range append(spaces(t), spaces(t)...) {
		x := begun(t, s)
		for range 70 {
			where := inos()[:1+d.below(len(inos()))]
			for range 1 + d.below(40) {
				x.do(drawnCall(&d, where))
			}
			x.held()
			if x.a.why != api.OK || d.below(6) == 0 {
				before := x.s.bytes()
				maps.DeleteFunc(before, func(b int, _ string) bool { return !slices.Contains(x.taken, b) })
				x.do(call{kind: one(&d, []string{"Abort", "Undo"})})
				x.backAt(before)
			}
			x = x.settled()
		}
	}
}

// TestShort: all lists of four of some calls, behind none and behind a few (P14.2 to P14.6).
func TestShort(t *testing.T) {
	t.Parallel()
	calls := []call{
		{kind: "Write", ino: 7, at: 500, p: "x"}, {kind: "Write", ino: 7, at: 0, p: text(1, size)}, {kind: "Write", ino: 7, at: 380, p: text(9, 2*size)},
		{kind: "Write", ino: 8, at: 0, p: "y"}, {kind: "Cut", ino: 7, at: 500}, {kind: "Cut", ino: 7, at: size}, {kind: "Cut", ino: 7, at: 1}, {kind: "Drop", ino: 7},
		{kind: "Write", ino: 7, at: api.MaxFile, p: "z"}, {kind: "Undo"},
	}
	for _, ahead := range [][]call{nil, {calls[2], calls[3]}} {
		s := wide(t)
		x := begun(t, s)
		x.do(ahead...)
		x = x.settled()
		for i := range len(calls) * len(calls) * len(calls) * len(calls) {
			for range 4 {
				x.do(calls[i%len(calls)])
				i /= len(calls)
			}
			x.held()
			x.do(call{kind: "Abort"})
		}
		x.held()
	}
}
