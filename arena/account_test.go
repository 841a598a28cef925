package arena_test

import (
	"fmt"
	"slices"
	"testing"

	"granary/api"
	"granary/arena"
)

// note is a record on a page.
type note struct {
	text string
	dead bool
}

// page is a block of a book: free where it has no notes.
type page struct {
	stamp uint64
	notes []note
}

// book is a store in the chapter's words, beside the calls that its device hears.
type book struct {
	first   int
	pages   []page
	open    int // the page that is open, or -1
	stamp   uint64
	behind  bool // something was laid into the open page since it was written
	stopped bool

	calls  []call
	until  int // the call that is refused, from 1 on; 0: none
	refuse api.Errno
}

// ask is a call of the device.
func (b *book) ask(c call) api.Errno {
	b.calls = append(b.calls, c)
	if b.until > 0 {
		b.until--
		if b.until == 0 {
			return b.refuse
		}
	}
	return api.OK
}

// kept is what a call that is refused leaves as it was.
func (b *book) kept() book {
	out := *b
	out.pages = slices.Clone(b.pages)
	for i := range out.pages {
		out.pages[i].notes = slices.Clone(b.pages[i].notes)
	}
	return out
}

// back is the book as it was, but for what the device has heard.
func (b *book) back(was book, stopped bool) {
	was.calls, was.until, was.stopped = b.calls, b.until, stopped
	*b = was
}

// at is where the chunk lies that is there: its page and its note, or -1.
func (b *book) at(text string) (int, int) {
	for i, p := range b.pages {
		for k, n := range p.notes {
			if n.text == text && !n.dead {
				return i, k
			}
		}
	}
	return -1, -1
}

// size is the bytes of the live notes, or of the dead ones.
func (p page) size(dead bool) int {
	out := 0
	for _, n := range p.notes {
		if n.dead == dead {
			out += len(n.text)
		}
	}
	return out
}

// texts is what is on the page.
func (p page) texts() []string {
	var out []string
	for _, n := range p.notes {
		out = append(out, n.text)
	}
	return out
}

// bytes is the page as it is written.
func (p page) bytes() []byte { return laid(p.stamp, p.texts()...) }

// room: the page has room for the text, too.
func (p page) room(text string) bool {
	return len(text)+2+p.size(true)+p.size(false)+2*len(p.notes) <= 372
}

// writeOpen writes the open page.
func (b *book) writeOpen() api.Errno {
	return b.ask(write(b.first+b.open, b.pages[b.open].bytes()))
}

// free is how many pages are free, and the first of them.
func (b *book) free() (int, int) {
	count, first := 0, -1
	for i := len(b.pages) - 1; i >= 0; i-- {
		if i != b.open && len(b.pages[i].notes) == 0 {
			count, first = count+1, i
		}
	}
	return count, first
}

// lay is P16.4, of what is not there: whether there was room for it, and the device's error.
func (b *book) lay(text string) (bool, api.Errno) {
	if b.open < 0 || !b.pages[b.open].room(text) {
		_, next := b.free()
		if next < 0 || b.stamp+1 > top {
			return false, api.OK
		}
		if b.open >= 0 {
			if e := b.writeOpen(); e != api.OK {
				return true, e
			}
		}
		b.stamp++
		b.open = next
		b.pages[next].stamp = b.stamp
	}
	p := &b.pages[b.open]
	p.notes = append(p.notes, note{text: text})
	b.behind = true
	return true, api.OK
}

// put is P16.4.
func (b *book) put(text string) api.Errno {
	switch {
	case b.stopped:
		return api.ErrStop
	case text == "":
		return api.ErrArg
	case len(text) > 300:
		return api.ErrLong
	}
	if i, _ := b.at(text); i >= 0 {
		return api.OK
	}
	was := b.kept()
	room, e := b.lay(text)
	if !room {
		return api.ErrFull
	}
	if e != api.OK {
		b.back(was, true)
	}
	return e
}

// get is P16.5.
func (b *book) get(text string) (string, api.Errno) {
	i, _ := b.at(text)
	if i < 0 {
		return "", api.ErrNone
	}
	if i != b.open {
		if e := b.ask(read(b.first + i)); e != api.OK {
			return "", e
		}
	}
	return text, api.OK
}

// drop is P16.5.
func (b *book) drop(text string) api.Errno {
	i, k := b.at(text)
	switch {
	case b.stopped:
		return api.ErrStop
	case i < 0:
		return api.ErrNone
	}
	b.pages[i].notes[k].dead = true
	return api.OK
}

// sync is P16.6.
func (b *book) sync() api.Errno {
	if b.stopped {
		return api.ErrStop
	}
	was := b.kept()
	e := b.home()
	if e != api.OK {
		b.back(was, true)
	}
	return e
}

// home is what Sync does.
func (b *book) home() api.Errno {
	if b.open >= 0 && b.behind {
		if e := b.writeOpen(); e != api.OK {
			return e
		}
	}
	b.behind = false
	if e := b.ask(flush()); e != api.OK {
		return e
	}
	some := false
	for i, p := range b.pages {
		if len(p.notes) > 0 && p.size(false) == 0 {
			some = true
			if e := b.ask(wipe(b.first + i)); e != api.OK {
				return e
			}
			b.pages[i] = page{}
			if b.open == i {
				b.open = -1
			}
		}
	}
	if some {
		return b.ask(flush())
	}
	return api.OK
}

// compact is P16.7.
func (b *book) compact() (bool, api.Errno) {
	if b.stopped {
		return false, api.ErrStop
	}
	least := -1
	for i, p := range b.pages {
		if i != b.open && p.size(true) > 0 && p.size(false) > 0 && (least < 0 || p.size(false) < b.pages[least].size(false)) {
			least = i
		}
	}
	if least < 0 {
		return false, api.OK
	}
	was := b.kept()
	for k, n := range was.pages[least].notes {
		if n.dead {
			continue
		}
		b.pages[least].notes[k].dead = true
		room, e := b.lay(n.text)
		if !room { // whether there is room for all is asked ahead of any writing
			*b = was
			return false, api.ErrFull
		}
		if e != api.OK {
			b.back(was, true)
			return false, e
		}
	}
	return true, api.OK
}

// reopen is the book as Open finds it on blocks that are as they were last written.
func (b *book) reopen(blocks []string) {
	b.open, b.behind, b.stopped, b.stamp = -1, false, false, 0
	clear(b.pages)
	for i := range b.pages {
		p := blocks[b.first+i]
		if p == zeros {
			continue
		}
		stamp, texts := parsed(p)
		b.stamp = max(b.stamp, stamp)
		for _, c := range texts {
			there, _ := b.at(c)
			b.pages[i].notes = append(b.pages[i].notes, note{c, there >= 0})
		}
		b.pages[i].stamp = stamp
	}
}

// parsed is the stamp and the chunks of a block that is an arena's.
func parsed(p string) (uint64, []string) {
	stamp := uint64(0)
	for i := 4; i < 12; i++ {
		stamp = stamp<<8 | uint64(p[i])
	}
	var out []string
	for p = p[12:]; len(p) > 2; {
		n := int(p[0])<<8 | int(p[1])
		if n == 0 {
			break
		}
		out = append(out, p[2:2+n])
		p = p[2+n:]
	}
	return stamp, out
}

// both is a store on a plate, and a book beside it.
type both struct {
	t     *testing.T
	d     *plate
	s     *arena.Store
	b     *book
	pool  []string // the chunks that are put
	trail []string
}

func newBoth(t *testing.T, before, count, behind int, pool []string) *both {
	t.Helper()
	d := newPlate(before + count + behind)
	if e := arena.Format(d, before, count); e != api.OK {
		t.Fatalf("Format: error %d", e)
	}
	x := &both{t: t, d: d, pool: pool, b: &book{first: before, pages: make([]page, count)}}
	x.reopen()
	return x
}

// fail tells what is wrong, and what was done so far.
func (x *both) fail(format string, args ...any) {
	x.t.Helper()
	x.t.Fatalf("%v: "+format, append([]any{x.trail}, args...)...)
}

// did is what is done now, on a device that refuses the call of that number.
func (x *both) did(fails int, format string, args ...any) {
	x.trail = append(x.trail, fmt.Sprintf(format, args...))
	if fails > 0 {
		x.trail = append(x.trail, fmt.Sprintf("with the call %d refused", fails))
	}
	why := errBroken
	if len(x.trail)%3 == 0 { // also with errors that the store itself answers
		why = []api.Errno{api.ErrArena, api.ErrFull, api.ErrNone, api.ErrStop, api.ErrArg, -5}[len(x.trail)/3%6]
	}
	x.d.heard()
	x.d.refuseAt(fails, why)
	x.b.calls, x.b.until, x.b.refuse = nil, fails, why
}

// done: the store answers as the book does, and the device has heard the same.
func (x *both) done(got, e api.Errno) {
	x.t.Helper()
	x.d.mend()
	x.b.until = 0
	if got != e {
		x.fail("error %d, want %d", got, e)
	}
	if l := x.d.heard(); !slices.Equal(l, x.b.calls) {
		x.fail("the device has heard %s, want %s", told(l), told(x.b.calls))
	}
}

func (x *both) put(text string, fails int) {
	x.t.Helper()
	x.did(fails, "put %s", brief(text))
	d, e := x.s.Put([]byte(text))
	why := x.b.put(text)
	if e == api.OK && d != digest(text) || e != api.OK && d != (api.Digest{}) {
		x.fail("Put: %x, error %d", d, e)
	}
	x.done(e, why)
}

func (x *both) drop(text string) {
	x.t.Helper()
	x.did(0, "drop %s", brief(text))
	x.done(x.s.Drop(digest(text)), x.b.drop(text))
}

func (x *both) get(text string, fails int) {
	x.t.Helper()
	x.did(fails, "get %s", brief(text))
	p, e := x.s.Get(digest(text))
	q, why := x.b.get(text)
	if string(p) != q || e != api.OK && p != nil {
		x.fail("Get: %s, error %d, want %s", brief(string(p)), e, brief(q))
	}
	x.done(e, why)
}

func (x *both) sync(fails int) {
	x.t.Helper()
	x.did(fails, "sync")
	x.done(x.s.Sync(), x.b.sync())
}

func (x *both) compact(fails int) bool {
	x.t.Helper()
	x.did(fails, "compact")
	ok, e := x.s.Compact()
	want, why := x.b.compact()
	if ok != want {
		x.fail("Compact: %v, error %d, want %v", ok, e, want)
	}
	x.done(e, why)
	return ok
}

// reopen opens the store anew, without a crash.
func (x *both) reopen() {
	x.t.Helper()
	x.trail = append(x.trail, "open")
	s, e := arena.Open(x.d, x.b.first, len(x.b.pages))
	if e != api.OK || s == nil {
		x.fail("Open: error %d", e)
	}
	x.s = s
	x.b.reopen(x.d.all())
	x.d.heard()
}

// agree: the store tells all that the book says.
func (x *both) agree() {
	x.t.Helper()
	count, live, dead := 0, 0, 0
	for _, p := range x.b.pages {
		live, dead = live+p.size(false), dead+p.size(true)
		for _, n := range p.notes {
			if !n.dead {
				count++
			}
		}
	}
	free, _ := x.b.free()
	if x.s.Len() != count || x.s.Live() != live || x.s.Dead() != dead || x.s.Free() != free || x.s.Blocks() != len(x.b.pages) {
		x.fail("Len %d, Live %d, Dead %d, Free %d, Blocks %d, want %d, %d, %d, %d, %d",
			x.s.Len(), x.s.Live(), x.s.Dead(), x.s.Free(), x.s.Blocks(), count, live, dead, free, len(x.b.pages))
	}
	var l []api.Digest
	for _, c := range x.pool {
		i, _ := x.b.at(c)
		b, is := x.s.Where(digest(c))
		if is != (i >= 0) || b != max(i, 0) || x.s.Has(digest(c)) != is {
			x.fail("Where of %s: %d, %v, want %d", brief(c), b, is, i)
		}
		if i >= 0 {
			l = append(l, digest(c))
		}
	}
	slices.SortFunc(l, func(a, b api.Digest) int { return slices.Compare(a[:], b[:]) })
	if !slices.Equal(x.s.List(), l) {
		x.fail("List: %x, want %x", x.s.List(), l)
	}
	if l := x.d.heard(); len(l) > 0 {
		x.fail("the device has heard %s", told(l))
	}
}

// getAll: all chunks are read as they were put.
func (x *both) getAll() {
	x.t.Helper()
	for _, c := range x.pool {
		x.get(c, 0)
	}
}

// scripts is every list of so many acts behind a beginning, on a store of that many blocks.
func scripts(t *testing.T, count int, pool []string, length int, first func(x *both), acts []func(x *both)) {
	t.Helper()
	total := 1
	for range length {
		total *= len(acts)
	}
	for number := range total {
		x := newBoth(t, 0, count, 0, pool)
		if first != nil {
			first(x)
		}
		for rest, n := number, length; n > 0; rest, n = rest/len(acts), n-1 {
			acts[rest%len(acts)](x)
			x.agree()
		}
		x.getAll()
	}
}

// some is chunks of such lengths, two of which may have just room together.
func some(lengths ...int) []string {
	var out []string
	for i, n := range lengths {
		out = append(out, text(n, i+1))
	}
	return out
}

// TestShortScripts: all lists of five of nine acts, on two blocks and on three (P16.4 to P16.8).
func TestShortScripts(t *testing.T) {
	t.Parallel()
	pool := some(300, 68, 184, 184)
	for _, count := range []int{2, 3} {
		scripts(t, count, pool, 5, nil, []func(x *both){
			func(x *both) { x.put(pool[0], 0) },
			func(x *both) { x.put(pool[1], 0) },
			func(x *both) { x.put(pool[2], 0) },
			func(x *both) { x.put(pool[3], 0) },
			func(x *both) { x.drop(pool[0]) },
			func(x *both) { x.drop(pool[2]) },
			func(x *both) { x.sync(0) },
			func(x *both) { x.compact(0) },
			func(x *both) { x.reopen() },
		})
	}
}

// TestShortScriptsRefused: all lists of four of thirteen acts behind a store that has something, with calls of the device that are refused (P16.4 to P16.8).
func TestShortScriptsRefused(t *testing.T) {
	t.Parallel()
	pool := some(100, 120, 90, 300, 68)
	for _, count := range []int{2, 3, 4} {
		scripts(t, count, pool, 4, func(x *both) {
			x.put(pool[0], 0)
			x.put(pool[1], 0)
			x.put(pool[2], 0)
			x.put(pool[3], 0)
			x.drop(pool[1])
		}, []func(x *both){
			func(x *both) { x.put(pool[1], 0) },
			func(x *both) { x.put(pool[1], 1) },
			func(x *both) { x.put(pool[4], 1) },
			func(x *both) { x.drop(pool[0]) },
			func(x *both) { x.drop(pool[3]) },
			func(x *both) { x.get(pool[0], 1) },
			func(x *both) { x.get(pool[3], 1) },
			func(x *both) { x.sync(0) },
			func(x *both) { x.sync(1) },
			func(x *both) { x.sync(3) },
			func(x *both) { x.compact(0) },
			func(x *both) { x.compact(1) },
			func(x *both) { x.reopen() },
		})
	}
}

// TestDrawnScripts: long lists of acts, on stores of many sizes that lie anywhere on their device, with calls of it that are refused (P16.3 to P16.8, P16.12).
func TestDrawnScripts(t *testing.T) {
	t.Parallel()
	dice := dice(3)
	for _, count := range []int{2, 3, 4, 6, 9, 20} {
		for range 40 {
			var pool []string
			for i := range 2 + dice.below(6*count) {
				pool = append(pool, text(1+dice.below(1+dice.below(300)), i))
			}
			slices.Sort(pool)
			pool = append(slices.Compact(pool), "", text(301, 1))
			x := newBoth(t, dice.below(3), count, dice.below(2), pool)
			for range 150 {
				x.step(&dice)
				x.agree()
			}
			x.getAll()
		}
	}
}

// step does something drawn.
func (x *both) step(dice *dice) {
	x.t.Helper()
	fails := max(0, dice.below(30)-25)
	c := x.pool[dice.below(len(x.pool))]
	switch n := dice.below(20); {
	case n < 8:
		x.put(c, fails)
	case n < 13:
		x.drop(c)
	case n < 14:
		x.get(c, fails)
	case n < 16:
		x.sync(fails)
	case n < 19:
		x.compact(fails)
	default:
		x.reopen()
	}
	if x.b.stopped && dice.below(4) == 0 {
		x.reopen()
	}
}

// TestEndOfStamps: drawn acts on a store whose stamps come to their end (P16.3, P16.4, P16.7).
func TestEndOfStamps(t *testing.T) {
	t.Parallel()
	dice := dice(4)
	for range 200 {
		x := newBoth(t, 0, 5, 0, some(200, 100, 300, 250, 90, 1, 2, 150))
		x.d.lay(1, laid(top-uint64(dice.below(5)), x.pool[0], x.pool[1]))
		x.reopen()
		for range 60 {
			x.step(&dice)
			x.agree()
		}
		x.getAll()
	}
}

// TestDrawnLeftovers: Open of drawn blocks that are any arena's, with the same chunks in many of them; and what becomes of these (P16.3, P16.6, P16.7).
func TestDrawnLeftovers(t *testing.T) {
	t.Parallel()
	dice := dice(5)
	pool := some(1, 20, 20, 50, 100, 184, 184, 300)
	for range 300 {
		x := newBoth(t, 1, 6, 1, pool)
		for b := 1; b <= 6; b++ {
			var l []string
			for left := 372; dice.below(5) > 0; {
				c := pool[dice.below(len(pool))]
				if left -= 2 + len(c); left < 0 {
					break
				}
				l = append(l, c)
			}
			if len(l) > 0 {
				x.d.lay(b, laid(1+uint64(dice.below(9)), l...))
			}
		}
		x.reopen()
		x.agree()
		for range 40 {
			x.step(&dice)
			x.agree()
		}
		x.getAll()
	}
}
