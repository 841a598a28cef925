package cache_test

import (
	"bytes"
	"slices"
	"testing"

	"granary/api"
)

// TestHandedIn: what is handed to Write is not changed, its spare room neither, and not kept (rule 3).
func TestHandedIn(t *testing.T) {
	for _, n := range []int{0, 1, 100, 384, 385} {
		x := lay(t, 2, 1)
		whole := bytes.Repeat([]byte("x"), 900)
		p := whole[:n]
		for _, b := range []int{0, 0, 2} {
			x.c.Write(b, p, 1)
		}
		if !bytes.Equal(whole, bytes.Repeat([]byte("x"), 900)) {
			t.Errorf("Write of %d bytes has changed them", n)
		}
		spoil(whole, '!')
		if n == 385 {
			continue
		}
		x.reads(0, string(bytes.Repeat([]byte("x"), n)))
		x.c.Safe(1)
		x.cleans(1, 1, api.OK)
		x.lies(0, string(bytes.Repeat([]byte("x"), n)))
	}
}

// TestAnswers: each answer is new memory, its spare room too (rule 3).
func TestAnswers(t *testing.T) {
	x := lay(t, 3, 3)
	x.writes(1, "b", 4)
	x.writes(0, "a", 4)
	x.pins(2)
	for b, text := range []string{"a", "b", "home C"} {
		p, _ := x.c.Read(b)
		q, _ := x.c.Read(b)
		spoil(p, '!')
		if string(q) != padded(text) {
			t.Errorf("two answers of Read(%d) share memory", b)
		}
		x.reads(b, text)
	}
	l, m := x.c.Dirty(), x.c.Dirty()
	spoil(l, api.Dirty{Block: 77, First: 1, Last: 2, Pins: 3})
	wanted := []api.Dirty{{Block: 0, First: 4, Last: 4}, {Block: 1, First: 4, Last: 4}}
	if !slices.Equal(m, wanted) {
		t.Errorf("two answers of Dirty share memory")
	}
	x.dirty(wanted...)
	h, i := x.c.Held(), x.c.Held()
	spoil(h, 77)
	if !slices.Equal(i, []int{0, 1, 2}) {
		t.Errorf("two answers of Held share memory")
	}
	x.held(0, 1, 2)
}

// TestToldIsOld: what was told stays, whatever is done behind it (rule 3).
func TestToldIsOld(t *testing.T) {
	x := lay(t, 3, 2)
	x.writes(0, "a", 1)
	p, _ := x.c.Read(0)
	dirty, held := x.c.Dirty(), x.c.Held()
	x.writes(0, "b", 2)
	x.reads(1, "home B")
	x.pins(0)
	x.c.Safe(9)
	want(t, "Flush", x.c.Flush(), api.OK)
	x.reads(2, "home C")
	if string(p) != padded("a") || !slices.Equal(dirty, []api.Dirty{{Block: 0, First: 1, Last: 1}}) || !slices.Equal(held, []int{0}) {
		t.Errorf("told %q, %v, %v", p, dirty, held)
	}
}

// hoard is a shelf that keeps the very lists that it is handed, and those that it answers.
type hoard struct {
	*shelf
	lists [][]byte
}

func (d *hoard) Write(b int, p []byte) api.Errno {
	d.lists = append(d.lists, p)
	return d.shelf.Write(b, p)
}

func (d *hoard) Read(b int) ([]byte, api.Errno) {
	p, e := d.shelf.Read(b)
	d.lists = append(d.lists, p)
	return p, e
}

// TestApartFromHome: what home was handed is not changed behind it, and neither that nor what home answered is kept (rule 3).
func TestApartFromHome(t *testing.T) {
	d := &hoard{shelf: newShelf(4)}
	x := table{t, d.shelf, made(t, d, 3)}
	x.reads(0, "home A")
	x.pins(1)
	x.writes(2, "c", 0)
	x.cleans(1, 1, api.OK)
	x.writes(2, "cc", 0)
	if len(d.lists) != 3 || string(d.lists[2]) != padded("c") {
		t.Fatalf("home was handed %q", d.lists)
	}
	for _, p := range d.lists {
		spoil(p, '!')
	}
	x.reads(0, "home A")
	x.reads(1, "home B")
	x.reads(2, "cc")
	x.writes(0, "a", 0)
	x.reads(3, "home D")
	x.heard(readOf(0), readOf(1), writeOf(2, "c"), writeOf(2, "cc"), readOf(3))
}

// TestTwoCaches: one knows nothing of another (rule 4).
func TestTwoCaches(t *testing.T) {
	x, y := lay(t, 3, 2), lay(t, 3, 2)
	x.writes(0, "a", 1)
	x.pins(1)
	x.c.Safe(9)
	y.held()
	y.writes(0, "b", 1)
	y.cleans(9, 0, api.OK)
	y.reads(1, "home B")
	y.unread(7, api.ErrArg)
	want(t, "Unpin", y.c.Unpin(1), api.ErrUnpin)
	y.hits(0, 1)
	x.hits(0, 1)
	x.reads(0, "a")
}
