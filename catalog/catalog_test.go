package catalog_test

import (
	"math"
	"slices"
	"strings"
	"testing"

	"granary/api"
	"granary/catalog"
)

// TestNew: P18.3, without snapshots, and the first one has the number 1.
func TestNew(t *testing.T) {
	p := newPair()
	p.agrees(t, "New")
	if n := p.real.Next(); n != 1 {
		t.Errorf("Next %d", n)
	}
	if n, e := catalog.New().Add(0, root(1), 0); n != 1 || e != api.OK {
		t.Errorf("Add: %d, error %d", n, e)
	}
	if catalog.New().Len() != 0 {
		t.Errorf("what New makes has snapshots of another one")
	}
}

// TestExample: the chapter's second example, call by call.
func TestExample(t *testing.T) {
	p := newPair()
	for _, x := range []struct {
		tick uint64
		e    api.Errno
	}{{5, api.OK}, {5, api.ErrTick}, {6, api.OK}} {
		want(t, "Add", p.add(t, x.tick, root(7), 300), x.e)
	}
	want(t, "Drop", p.drop(t, 1), api.OK)
	if n := p.real.Next(); n != 3 {
		t.Errorf("Next %d", n)
	}
	two := api.Snapshot{Number: 2, Tick: 6, Root: root(7), Size: 300}
	if s, is := p.real.ByName("s2"); s != two || !is {
		t.Errorf("ByName(s2): %v %t", s, is)
	}
	if s, is := p.real.ByName("s02"); s != (api.Snapshot{}) || is {
		t.Errorf("ByName(s02): %v %t", s, is)
	}
	if b := p.real.Bytes(); len(b) != 20+52 {
		t.Errorf("%d bytes", len(b))
	}
	p.agrees(t, "the example")
}

// TestAddErrors: P18.3, each error alone, and each two in the document's order: ErrArg, ErrTick, ErrFull; what is refused changes nothing, so that it takes no number and sets no tick.
func TestAddErrors(t *testing.T) {
	full, out := newPair(), loaded(t, 0, top32-1)
	for i := range uint64(api.MaxSnapshots) {
		full.add(t, i*2, root(int(i)), i)
	}
	some, empty := filled(t, 3, 9), newPair()
	gone := filled(t, 3, 9)
	gone.drop(t, 2)
	var roots []string
	for _, n := range []int{0, 1, 31, 33, 64, 1000} {
		roots = append(roots, strings.Repeat("r", n))
	}
	for name, p := range map[string]pair{"full": full, "no number left": out, "some": some, "new": empty, "the last one dropped": gone} {
		bytes := string(p.real.Bytes())
		last := p.told.last
		for _, r := range roots {
			for _, tick := range []uint64{0, last - 1, last, last + 1, top64} {
				want(t, name+", another length", p.add(t, tick, r, 5), api.ErrArg)
			}
		}
		if p.told.added > 0 {
			for _, tick := range []uint64{0, 1, last - 1, last} {
				want(t, name+", a tick that is not above", p.add(t, tick, root(1), 5), api.ErrTick)
			}
		}
		if name == "full" || name == "no number left" {
			for _, tick := range []uint64{last + 1, last + 2, top64} {
				want(t, name, p.add(t, tick, root(1), 5), api.ErrFull)
			}
		}
		if string(p.real.Bytes()) != bytes {
			t.Errorf("%s: what is refused changes something", name)
		}
		p.agrees(t, name)
	}
	for name, p := range map[string]pair{"some": some, "new": empty, "the last one dropped": gone} {
		want(t, name+", behind what was refused", p.add(t, p.told.last+1, root(2), 5), api.OK)
		p.agrees(t, name)
	}
}

// TestAddTicks: P18.3, a tick below, at and above that of the last one ever added, which may have been dropped; of none any is right.
func TestAddTicks(t *testing.T) {
	for _, first := range []uint64{0, 1, 2, 77, 1 << 32, 1 << 63, top64 - 1, top64} {
		for _, dropped := range [][]uint32{nil, {1}} {
			for _, tick := range []uint64{0, 1, first - 1, first, first + 1, top64} {
				p := filled(t, first)
				for _, n := range dropped {
					p.drop(t, n)
				}
				e := api.ErrTick
				if tick > first {
					e = api.OK
				}
				want(t, "Add", p.add(t, tick, root(1), 1), e)
				p.agrees(t, "a second one")
			}
		}
	}
}

// TestAddFields: P18.3, a snapshot has what it was added with.
func TestAddFields(t *testing.T) {
	p := newPair()
	p.add(t, 0, strings.Repeat("\x00", 32), 0)
	p.add(t, 1, strings.Repeat("\xff", 32), top64)
	p.add(t, 0x0102030405060708, strings.Repeat("é", 16), 0x1112131415161718)
	p.add(t, top64, root(3), 1<<63)
	p.agrees(t, "fields")
	w := []api.Snapshot{{Number: 1, Tick: 0, Root: strings.Repeat("\x00", 32)}, {Number: 2, Tick: 1, Root: strings.Repeat("\xff", 32), Size: top64}, {Number: 3, Tick: 0x0102030405060708, Root: strings.Repeat("é", 16), Size: 0x1112131415161718}, {Number: 4, Tick: top64, Root: root(3), Size: 1 << 63}}
	if l := p.real.List(); !slices.Equal(l, w) {
		t.Errorf("List: %v", l)
	}
	want(t, "behind the greatest tick", p.add(t, top64, root(3), 0), api.ErrTick)
}

// TestAddFull: P18.3, MaxSnapshots and one more; where one is dropped or retired there is room again.
func TestAddFull(t *testing.T) {
	p := newPair()
	for i := range uint64(api.MaxSnapshots) {
		want(t, "Add", p.add(t, i, root(int(i)), i), api.OK)
	}
	p.agrees(t, "full")
	want(t, "one more", p.add(t, 1000, root(1), 0), api.ErrFull)
	p.agrees(t, "one more")
	p.drop(t, 77)
	if n, e := p.real.Add(1000, root(1), 0); n != 257 || e != api.OK {
		t.Errorf("Add where one was dropped: %d, error %d", n, e)
	}
	p.told.add(1000, root(1), 0)
	want(t, "one more again", p.add(t, 1001, root(1), 0), api.ErrFull)
	p.retire(t, api.Policy{Last: 3})
	for i := range uint64(api.MaxSnapshots - 3) {
		want(t, "Add where others were retired", p.add(t, 2000+i, root(int(i)), i), api.OK)
	}
	want(t, "one more at last", p.add(t, 9000, root(1), 0), api.ErrFull)
	p.agrees(t, "at last")
}

// TestLastNumber: P18.3 and P18.4, the last number below 2^32, and the one behind it.
func TestLastNumber(t *testing.T) {
	p := loaded(t, top32-1, 1<<33)
	for i, e := range []api.Errno{api.OK, api.OK, api.ErrFull, api.ErrFull} {
		want(t, "Add", p.add(t, 1<<33+1+uint64(i), root(i), 1), e)
		p.agrees(t, "the last numbers")
	}
	if n := p.real.Next(); n != 0 {
		t.Errorf("Next: %d", n)
	}
	if s, is := p.real.ByName("s4294967295"); !is || s.Number != top32 {
		t.Errorf("ByName: %v %t", s, is)
	}
	want(t, "Drop", p.drop(t, top32), api.OK)
	want(t, "Add behind it", p.add(t, top64, root(1), 1), api.ErrFull)
	p.agrees(t, "the last one dropped")
	p.retire(t, api.Policy{})
	want(t, "Add behind all", p.add(t, top64, root(1), 1), api.ErrFull)
	p.agrees(t, "none there, and none left")
}

// TestDrop: P18.3, of the first, one in the midst, the last, one that never was, one that was dropped, 0.
func TestDrop(t *testing.T) {
	ticks := []uint64{1, 3, 4, 10, 11}
	for _, numbers := range [][]uint32{{1}, {2}, {3}, {4}, {5}, {1, 2, 3}, {5, 4, 3}, {3, 1, 5}, {1, 2, 3, 4, 5}, {5, 4, 3, 2, 1}} {
		p := filled(t, ticks...)
		for _, n := range numbers {
			want(t, "Drop", p.drop(t, n), api.OK)
			p.agrees(t, "behind Drop")
			want(t, "Drop again", p.drop(t, n), api.ErrNone)
			p.agrees(t, "behind a Drop of what was dropped")
		}
		for _, n := range []uint32{0, 6, 7, 256, 257, 1 << 31, top32} {
			want(t, "Drop of what never was", p.drop(t, n), api.ErrNone)
			p.agrees(t, "behind a Drop of what never was")
		}
		p.add(t, 12, root(9), 4)
		p.agrees(t, "behind another Add")
	}
	want(t, "Drop of none", newPair().drop(t, 1), api.ErrNone)
	want(t, "Drop of 0", newPair().drop(t, 0), api.ErrNone)
}

// TestName: P18.4, decimal digits of the number alone.
func TestName(t *testing.T) {
	for n, w := range map[uint32]string{0: "s0", 1: "s1", 9: "s9", 10: "s10", 100: "s100", 4096: "s4096", 1 << 31: "s2147483648", top32: "s4294967295"} {
		if got := catalog.Name(api.Snapshot{Number: n}); got != w {
			t.Errorf("Name of %d: %q", n, got)
		}
		if got := catalog.Name(api.Snapshot{Number: n, Tick: 5, Root: "r", Size: 9}); got != w {
			t.Errorf("Name of %d, with other fields: %q", n, got)
		}
	}
}

// TestByName: P18.4, just the Names of those that are there.
func TestByName(t *testing.T) {
	p := newPair()
	for i := range uint64(12) {
		p.add(t, i, root(int(i)), i)
	}
	p.drop(t, 2)
	for n, is := range map[string]bool{
		"s1": true, "s3": true, "s10": true, "s11": true, "s12": true, "s2": false, "s13": false,
		"s0": false, "s00": false, "s01": false, "s001": false, "S1": false, "s": false, "": false, "1": false, "ss1": false, "s1s": false, "t1": false,
		"s+1": false, "s-1": false, "+s1": false, " s1": false, "s 1": false, "s1 ": false, "s1\n": false, "s1\x00": false, "\x00s1": false,
		"s4294967296": false, "s4294967297": false, "s18446744073709551617": false, "s99999999999999999999999999": false, "s340282366920938463463374607431768211457": false,
		"s1_0": false, "s1.0": false, "s1e0": false, "s0x1": false, "s0b1": false, "s١": false, "s１": false, "s1/": false, "s1:": false, ".snap": false, "ſ1": false,
	} {
		s, got := p.real.ByName(n)
		if got != is || got && catalog.Name(s) != n || !got && s != (api.Snapshot{}) {
			t.Errorf("ByName(%q): %v %t", n, s, got)
		}
		p.named(t, "ByName", n)
	}
}

// TestRoots: P18.4, each once, rising as bytes.
func TestRoots(t *testing.T) {
	p := newPair()
	for i, x := range []int{0xff, 0x80, 0x7f, 0, 0xff, 0x61, 0x80, 0x41, 0} {
		p.add(t, uint64(i), root(x), 1)
		p.agrees(t, "roots that come twice")
	}
	w := []string{root(0), root(0x41), root(0x61), root(0x7f), root(0x80), root(0xff)}
	if l := p.real.Roots(); !slices.Equal(l, w) {
		t.Errorf("Roots: %q", l)
	}
	for n := range uint32(9) {
		p.drop(t, n+1)
		p.agrees(t, "roots of which one is dropped")
	}
	p.add(t, 100, "\xff"+strings.Repeat("a", 31), 1)
	p.add(t, 101, "a"+strings.Repeat("\xff", 31), 1)
	p.add(t, 102, "é"+strings.Repeat("a", 30), 1)
	p.agrees(t, "order by the first byte")
}

// TestRetire: P18.5, each error, the numbers in order, nothing to drop, all dropped, and that it is Keep of the Ticks of List().
func TestRetire(t *testing.T) {
	ticks := []uint64{1, 5, 12, 18, 31}
	for _, y := range append(right(), wrong()...) {
		for _, dropped := range [][]uint32{nil, {1}, {5}, {2, 4}, {1, 2, 3, 4, 5}} {
			p := filled(t, ticks...)
			for _, n := range dropped {
				p.drop(t, n)
			}
			p.retire(t, y)
			p.agrees(t, "behind Retire")
		}
	}
	for _, x := range []struct {
		y api.Policy
		l []uint32
	}{
		{api.Policy{Last: 1, Rules: []api.Rule{{Every: 10, Count: 2}}}, []uint32{1, 2, 3}},
		{api.Policy{Last: 5}, nil},
		{api.Policy{Last: math.MaxInt}, nil},
		{api.Policy{}, []uint32{1, 2, 3, 4, 5}},
		{api.Policy{Rules: []api.Rule{{Every: 10, Count: 9}}}, []uint32{1, 3}},
	} {
		p := filled(t, ticks...)
		if l, e := p.retire(t, x.y); !slices.Equal(l, x.l) || e != api.OK {
			t.Errorf("Retire(%v): %d, error %d", x.y, l, e)
		}
		p.agrees(t, "behind Retire")
		p.add(t, 32, root(1), 1)
		p.agrees(t, "behind another Add")
	}
	for _, y := range wrong() {
		p := filled(t, ticks...)
		bytes := string(p.real.Bytes())
		if l, e := p.retire(t, y); l != nil || e != api.ErrPolicy || string(p.real.Bytes()) != bytes {
			t.Errorf("Retire(%v): %d, error %d", y, l, e)
		}
		if l, e := catalog.New().Retire(y); l != nil || e != api.ErrPolicy {
			t.Errorf("Retire(%v) of none: %d, error %d", y, l, e)
		}
	}
}

// TestCopy: P18.6, like it, and apart from it, in both directions, behind each act.
func TestCopy(t *testing.T) {
	acts := map[string]func(t *testing.T, p pair){
		"Add":           func(t *testing.T, p pair) { p.add(t, p.told.last+1, root(200), 5) },
		"Drop first":    func(t *testing.T, p pair) { p.drop(t, 1) },
		"Drop last":     func(t *testing.T, p pair) { p.drop(t, uint32(p.told.added)) },
		"Retire":        func(t *testing.T, p pair) { p.retire(t, api.Policy{Last: 1}) },
		"Retire all":    func(t *testing.T, p pair) { p.retire(t, api.Policy{}) },
		"Add and Drop":  func(t *testing.T, p pair) { p.add(t, p.told.last+1, root(9), 5); p.drop(t, 2) },
		"Drop and Add":  func(t *testing.T, p pair) { p.drop(t, 2); p.add(t, p.told.last+1, root(9), 5) },
		"Add, and more": func(t *testing.T, p pair) { p.add(t, p.told.last+1, root(9), 5); p.add(t, p.told.last+9, root(8), 5) },
	}
	for n := range 10 {
		var ticks []uint64
		for i := range n {
			ticks = append(ticks, uint64(3*i))
		}
		for name, act := range acts {
			one := filled(t, ticks...)
			two := pair{one.real.Copy(), one.told.clone()}
			two.agrees(t, "Copy")
			act(t, one)
			one.agrees(t, name+", the one copied")
			two.agrees(t, name+", the copy of what changed")
			act(t, two)
			act(t, two)
			one.agrees(t, name+", whose copy changed")
			two.agrees(t, name+", the copy")
			act(t, one)
			two.agrees(t, name+", the copy at last")
			one.agrees(t, name+", at last")
		}
	}
}

// TestNil: P18.6, each call on a nil Catalog.
func TestNil(t *testing.T) {
	var c *catalog.Catalog
	for _, r := range []string{"", root(1)} {
		if n, e := c.Add(5, r, 1); n != 0 || e != api.ErrNone {
			t.Errorf("Add: %d, error %d", n, e)
		}
	}
	for _, n := range []uint32{0, 1, top32} {
		want(t, "Drop", c.Drop(n), api.ErrNone)
		if s, is := c.Get(n); s != (api.Snapshot{}) || is {
			t.Errorf("Get(%d): %v %t", n, s, is)
		}
	}
	for _, n := range []string{"", "s0", "s1"} {
		if s, is := c.ByName(n); s != (api.Snapshot{}) || is {
			t.Errorf("ByName(%q): %v %t", n, s, is)
		}
	}
	for _, y := range append(right(), wrong()...) {
		if l, e := c.Retire(y); len(l) != 0 || e != api.ErrNone {
			t.Errorf("Retire(%v): %v, error %d", y, l, e)
		}
	}
	if len(c.List()) != 0 || c.Len() != 0 || c.Next() != 0 || len(c.Roots()) != 0 || len(c.Bytes()) != 0 {
		t.Errorf("List %v, Len %d, Next %d, Roots %v, Bytes %v", c.List(), c.Len(), c.Next(), c.Roots(), c.Bytes())
	}
	if c.Copy() != nil {
		t.Errorf("Copy is one")
	}
}

// TestAllActs: P18.3 to P18.6, all lists of five of ten acts, with all that is told behind each.
func TestAllActs(t *testing.T) {
	t.Parallel()
	acts := []func(t *testing.T, p pair){
		func(t *testing.T, p pair) { p.add(t, p.told.last+1, root(1), 1) },
		func(t *testing.T, p pair) { p.add(t, p.told.last+7, root(2), 2) },
		func(t *testing.T, p pair) { p.add(t, p.told.last, root(1), 3) },
		func(t *testing.T, p pair) { p.add(t, p.told.last+1, "r", 3) },
		func(t *testing.T, p pair) { p.drop(t, 1) },
		func(t *testing.T, p pair) { p.drop(t, 2) },
		func(t *testing.T, p pair) { p.drop(t, uint32(p.told.added)) },
		func(t *testing.T, p pair) { p.retire(t, api.Policy{Last: 1}) },
		func(t *testing.T, p pair) { p.retire(t, api.Policy{Rules: []api.Rule{{Every: 5, Count: 2}}}) },
		func(t *testing.T, p pair) { p.retire(t, api.Policy{Last: -1}) },
	}
	const length = 5
	total := 1
	for range length {
		total *= len(acts)
	}
	for i := range total {
		p := newPair()
		for n, left := 0, i; n < length; n++ {
			acts[left%len(acts)](t, p)
			left /= len(acts)
		}
		p.agrees(t, "acts")
		if !loads(t, "acts", string(p.real.Bytes())) {
			t.Errorf("the account does not take the bytes of what acts led to")
		}
		if t.Failed() {
			t.Fatalf("list %d of acts", i)
		}
	}
}
