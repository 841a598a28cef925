package catalog_test

import (
	"math"
	"slices"
	"strconv"
	"strings"
	"testing"

	"granary/api"
	"granary/catalog"
)

// The greatest number and the greatest tick.
const (
	top32 = math.MaxUint32
	top64 = math.MaxUint64
)

// root is one of 256 roots.
func root(seed int) string { return strings.Repeat("r", 31) + string([]byte{byte(seed)}) }

// want: the error, and no other.
func want(t *testing.T, name string, got, e api.Errno) {
	t.Helper()
	if got != e {
		t.Errorf("%s: error %d, want %d", name, got, e)
	}
}

// pair is a catalogue beside its plain account.
type pair struct {
	real *catalog.Catalog
	told *plain
}

func newPair() pair { return pair{catalog.New(), &plain{}} }

// filled is a pair with one snapshot on each of the ticks.
func filled(t *testing.T, ticks ...uint64) pair {
	t.Helper()
	p := newPair()
	for i, x := range ticks {
		p.add(t, x, root(i), uint64(i))
	}
	return p
}

// loaded is a pair from bytes that Load takes.
func loaded(t *testing.T, next uint32, last uint64, there ...api.Snapshot) pair {
	t.Helper()
	b := laid(next, last, there...)
	c, e := catalog.Load([]byte(b))
	if e != api.OK || c == nil {
		t.Fatalf("Load: error %d", e)
	}
	told, is := load(b)
	if !is {
		t.Fatalf("no acts lead there")
	}
	return pair{c, told}
}

// laid is a catalogue's bytes, whether or not there can be such a one.
func laid(next uint32, last uint64, there ...api.Snapshot) string {
	p := plain{added: uint64(next) - 1, last: last, there: there}
	if next == 0 {
		p.added = top32
	}
	return p.bytes()
}

// add is Add of both.
func (p pair) add(t *testing.T, tick uint64, root string, size uint64) api.Errno {
	t.Helper()
	n, e := p.real.Add(tick, root, size)
	if m, w := p.told.add(tick, root, size); n != m || e != w {
		t.Errorf("Add(%d, %d bytes): %d, error %d, want %d, error %d", tick, len(root), n, e, m, w)
	}
	return e
}

// drop is Drop of both.
func (p pair) drop(t *testing.T, number uint32) api.Errno {
	t.Helper()
	e := p.real.Drop(number)
	if w := p.told.drop(number); e != w {
		t.Errorf("Drop(%d): error %d, want %d", number, e, w)
	}
	return e
}

// retire is Retire of both.
func (p pair) retire(t *testing.T, y api.Policy) ([]uint32, api.Errno) {
	t.Helper()
	l, e := p.real.Retire(y)
	if m, w := p.told.retire(y); !slices.Equal(l, m) || e != w {
		t.Errorf("Retire(%v): %v, error %d, want %v, error %d", y, l, e, m, w)
	}
	return l, e
}

// agrees: the catalogue tells what the account does.
func (p pair) agrees(t *testing.T, name string) {
	t.Helper()
	if l := p.real.List(); !slices.Equal(l, p.told.there) {
		t.Errorf("%s: List %v, want %v", name, l, p.told.there)
	}
	if n := p.real.Len(); n != len(p.told.there) {
		t.Errorf("%s: Len %d, want %d", name, n, len(p.told.there))
	}
	if n := p.real.Next(); n != p.told.next() {
		t.Errorf("%s: Next %d, want %d", name, n, p.told.next())
	}
	if l := p.real.Roots(); !slices.Equal(l, p.told.roots()) {
		t.Errorf("%s: Roots %q, want %q", name, l, p.told.roots())
	}
	if b := p.real.Bytes(); string(b) != p.told.bytes() {
		t.Errorf("%s: Bytes %x, want %x", name, b, p.told.bytes())
	}
	p.finds(t, name)
}

// finds: Get and ByName find what the account does, around all numbers that are there, and at the ends.
func (p pair) finds(t *testing.T, name string) {
	t.Helper()
	numbers := []uint32{0, 1, 2, 3, 4, 5, p.told.next() - 1, p.told.next(), p.told.next() + 1, 1 << 31, top32 - 1, top32}
	for _, s := range p.told.there {
		numbers = append(numbers, s.Number-1, s.Number, s.Number+1)
	}
	for _, n := range numbers {
		s, is := p.real.Get(n)
		if r, w := p.told.get(n); s != r || is != w {
			t.Errorf("%s: Get(%d): %v %t, want %v %t", name, n, s, is, r, w)
		}
		p.named(t, name, "s"+strconv.Itoa(int(n)))
	}
	for _, text := range []string{"", "s", "s0", "s00", "s01", "S1", "1"} {
		p.named(t, name, text)
	}
}

// named: ByName finds what the account does.
func (p pair) named(t *testing.T, name, text string) {
	t.Helper()
	s, is := p.real.ByName(text)
	if r, w := p.told.byName(text); s != r || is != w {
		t.Errorf("%s: ByName(%q): %v %t, want %v %t", name, text, s, is, r, w)
	}
}

// loads: Load answers what the account does.
func loads(t *testing.T, name, b string) bool {
	t.Helper()
	c, e := catalog.Load([]byte(b))
	told, is := load(b)
	switch {
	case !is && (c != nil || e != api.ErrCatalog):
		t.Errorf("%s: Load tells error %d, want ErrCatalog, and none", name, e)
	case is && (c == nil || e != api.OK):
		t.Errorf("%s: Load tells error %d, want OK", name, e)
	case is && (string(c.Bytes()) != b || c.Next() != told.next() || !slices.Equal(c.List(), told.there)):
		t.Errorf("%s: Load makes another one", name)
	}
	return is
}

// act does one drawn act with both, and tells what.
func (p pair) act(t *testing.T, d *dice) string {
	t.Helper()
	switch d.below(10) {
	case 0, 1, 2, 3, 4:
		p.add(t, p.told.last+uint64(d.below(9)), root(d.below(5)), uint64(d.below(9)))
		return "Add"
	case 5:
		p.add(t, p.told.last+uint64(d.below(3)), strings.Repeat("r", 30+d.below(4)), 1)
		return "Add of another length"
	case 6, 7:
		p.drop(t, uint32(d.below(int(p.told.added)+3)))
		return "Drop"
	case 8:
		if len(p.told.there) > 0 {
			p.drop(t, p.told.there[d.below(len(p.told.there))].Number)
		}
		return "Drop of one that is there"
	}
	if d.below(3) == 0 {
		p.retire(t, policy(d))
	}
	return "Retire"
}

// policy is a drawn one; CheckPolicy refuses some.
func policy(d *dice) api.Policy {
	y := api.Policy{Last: d.below(6) - d.below(2)}
	for range d.below(4) {
		y.Rules = append(y.Rules, api.Rule{Every: uint64(1 + d.below(30)), Count: d.below(5)})
	}
	if len(y.Rules) > 0 && d.below(8) == 0 {
		y.Rules[d.below(len(y.Rules))].Every = 0
	}
	return y
}

// rising is a drawn list of ticks that rises.
func rising(d *dice, n int) []uint64 {
	var out []uint64
	tick := uint64(d.below(5))
	for range n {
		out = append(out, tick)
		tick += uint64(1 + d.below(1+d.below(20)))
	}
	return out
}

// dice is numbers that look thrown, the same ones each time.
type dice uint64

// below is the next number, of 0 to n - 1.
func (d *dice) below(n int) int {
	*d = *d*6364136223846793005 + 1442695040888963407
	return int(uint64(*d) >> 33 % uint64(n))
}

// spoil writes over all of a list, its spare room too.
func spoil[T any](l []T, with T) {
	l = l[:cap(l)]
	for i := range l {
		l[i] = with
	}
}
