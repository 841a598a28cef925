package cache_test

import (
	"bytes"
	"fmt"
	"slices"
	"strings"
	"testing"

	"granary/api"
	"granary/cache"
)

// errBroken is what a shelf answers where it is made to fail: no number of the document's.
const errBroken api.Errno = 999

// Numbers at the edges of their kinds.
const (
	leastInt    = -1 << 63
	greatestInt = 1<<63 - 1
	topChange   = uint64(1<<64 - 1)
)

// call is one that a shelf has heard: r, w or f, of which block, with which bytes.
type call struct {
	kind  byte
	block int
	data  string
}

// String is the call without the zeros at its end.
func (c call) String() string {
	return fmt.Sprintf("%c%d %q", c.kind, c.block, strings.TrimRight(c.data, "\x00"))
}

// shelf is a device in memory. It notes the calls, and fails at one of them.
type shelf struct {
	blocks []string
	calls  []call
	until  int  // the call that fails, from 1 on; 0: none
	late   bool // the one that fails is done all the same
}

func newShelf(blocks int) *shelf {
	d := &shelf{}
	for b := range blocks {
		d.blocks = append(d.blocks, padded("home "+string(rune('A'+b%26))))
	}
	return d
}

// fails notes the call, and tells whether it fails.
func (d *shelf) fails(c call) bool {
	d.calls = append(d.calls, c)
	d.until--
	if d.until != 0 {
		d.until = max(d.until, 0)
		return false
	}
	return true
}

func (d *shelf) Len() int { return len(d.blocks) }

func (d *shelf) Read(b int) ([]byte, api.Errno) {
	if d.fails(call{'r', b, ""}) {
		return []byte("none's bytes"), errBroken
	}
	return []byte(d.blocks[b]), api.OK
}

func (d *shelf) Write(b int, p []byte) api.Errno {
	failed := d.fails(call{'w', b, string(p)})
	if !failed || d.late {
		d.blocks[b] = string(p)
	}
	if failed {
		return errBroken
	}
	return api.OK
}

func (d *shelf) Flush() api.Errno {
	if d.fails(call{'f', 0, ""}) {
		return errBroken
	}
	return api.OK
}

// copied is a shelf with the same blocks, that fails at the same call.
func (d *shelf) copied() *shelf {
	return &shelf{blocks: slices.Clone(d.blocks), until: d.until, late: d.late}
}

// heard is the calls since the last time, and forgets them.
func (d *shelf) heard() []call {
	out := d.calls
	d.calls = nil
	return out
}

// The calls that a shelf may hear.
func readOf(b int) call               { return call{'r', b, ""} }
func writeOf(b int, text string) call { return call{'w', b, padded(text)} }
func flush() call                     { return call{'f', 0, ""} }

// padded is a block that begins with the text, and zeros.
func padded(text string) string {
	return text + string(make([]byte, api.BlockBytes-len(text)))
}

// table is a cache on a shelf, in a test.
type table struct {
	t *testing.T
	d *shelf
	c *cache.Cache
}

// lay is an empty cache with so many places over so many blocks.
func lay(t *testing.T, blocks, places int) table {
	t.Helper()
	d := newShelf(blocks)
	return table{t, d, made(t, d, places)}
}

// made is a cache where nothing can be wrong.
func made(t *testing.T, d api.Blocks, places int) *cache.Cache {
	t.Helper()
	c, e := cache.New(d, places)
	if e != api.OK || c == nil {
		t.Fatalf("New: %v, error %d", c, e)
	}
	return c
}

// want: the error, and no other.
func want(t *testing.T, name string, got, e api.Errno) {
	t.Helper()
	if got != e {
		t.Errorf("%s: error %d, want %d", name, got, e)
	}
}

// reads: the block is the text, and zeros.
func (x table) reads(b int, text string) {
	x.t.Helper()
	if p, e := x.c.Read(b); e != api.OK || string(p) != padded(text) {
		x.t.Errorf("Read(%d): %q, error %d, want %q", b, bytes.TrimRight(p, "\x00"), e, text)
	}
}

// unread: the block is not told, for that reason.
func (x table) unread(b int, why api.Errno) {
	x.t.Helper()
	if p, e := x.c.Read(b); p != nil || e != why {
		x.t.Errorf("Read(%d): %d bytes, error %d, want error %d", b, len(p), e, why)
	}
}

// writes: the block is written.
func (x table) writes(b int, text string, change uint64) {
	x.t.Helper()
	want(x.t, "Write", x.c.Write(b, []byte(text), change), api.OK)
}

// pins: the blocks are held once more.
func (x table) pins(blocks ...int) {
	x.t.Helper()
	for _, b := range blocks {
		want(x.t, "Pin", x.c.Pin(b), api.OK)
	}
}

// cleans: so many are written, and that error.
func (x table) cleans(most, n int, why api.Errno) {
	x.t.Helper()
	if got, e := x.c.Clean(most); got != n || e != why {
		x.t.Errorf("Clean(%d): %d, error %d, want %d, error %d", most, got, e, n, why)
	}
}

// heard: these calls came to home since the last time, in this order, and none besides.
func (x table) heard(l ...call) {
	x.t.Helper()
	if got := x.d.heard(); !slices.Equal(got, l) {
		x.t.Errorf("home heard %v, want %v", got, l)
	}
}

// held: these blocks are in the cache, in this order.
func (x table) held(l ...int) {
	x.t.Helper()
	if got := x.c.Held(); !slices.Equal(got, l) {
		x.t.Errorf("Held: %v, want %v", got, l)
	}
}

// dirty: these blocks are dirty, told in this order; and Oldest fits.
func (x table) dirty(l ...api.Dirty) {
	x.t.Helper()
	if got := x.c.Dirty(); !slices.Equal(got, l) {
		x.t.Errorf("Dirty: %v, want %v", got, l)
	}
	first := uint64(0)
	if len(l) > 0 {
		first = l[0].First
	}
	if got, some := x.c.Oldest(); got != first || some != (len(l) > 0) {
		x.t.Errorf("Oldest: %d, %v, want %d", got, some, first)
	}
}

// hits: so many found their block, and so many did not.
func (x table) hits(found, missed int) {
	x.t.Helper()
	if f, m := x.c.Hits(); f != found || m != missed {
		x.t.Errorf("Hits: %d, %d, want %d, %d", f, m, found, missed)
	}
}

// lies: home's block is the text, and zeros.
func (x table) lies(b int, text string) {
	x.t.Helper()
	if x.d.blocks[b] != padded(text) {
		x.t.Errorf("home's %d is %q, want %q", b, x.d.blocks[b], text)
	}
}

// dice is numbers that look thrown, the same ones each time.
type dice uint64

// below is the next number, of 0 to n - 1.
func (d *dice) below(n int) int {
	*d = *d*6364136223846793005 + 1442695040888963407
	return int(uint64(*d) >> 33 % uint64(n))
}

// spoil writes over all of a list, its spare room too.
func spoil[T any](l []T, with T) {
	l = l[:cap(l)]
	for i := range l {
		l[i] = with
	}
}
