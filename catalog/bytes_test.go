package catalog_test

import (
	"encoding/hex"
	"slices"
	"strconv"
	"strings"
	"testing"

	"granary/api"
	"granary/catalog"
)

// at is a snapshot with that number, and tick.
func at(number uint32, tick uint64) api.Snapshot {
	return api.Snapshot{Number: number, Tick: tick, Root: root(int(number)), Size: tick}
}

// TestBytes: P18.6, as values: of a new one, and of the chapter's second example.
func TestBytes(t *testing.T) {
	p := newPair()
	is := func(w string) {
		t.Helper()
		if got := hex.EncodeToString(p.real.Bytes()); got != strings.ReplaceAll(w, " ", "") {
			t.Errorf("Bytes %s, want %s", got, w)
		}
		loads(t, "Bytes", string(p.real.Bytes()))
	}
	is("43415431 00000001 0000000000000000 00000000")
	p.add(t, 5, strings.Repeat("\xab", 32), 0x0123)
	p.add(t, 5, strings.Repeat("\xab", 32), 0x0123)
	p.add(t, 6, strings.Repeat("\xcd", 32), 0x0102030405060708)
	first := "00000001 0000000000000005" + strings.Repeat("ab", 32) + "0000000000000123"
	second := "00000002 0000000000000006" + strings.Repeat("cd", 32) + "0102030405060708"
	is("43415431 00000003 0000000000000006 00000002" + first + second)
	p.drop(t, 1)
	is("43415431 00000003 0000000000000006 00000001" + second)
	p.drop(t, 2)
	is("43415431 00000003 0000000000000006 00000000")
	p = loaded(t, 0, top64, api.Snapshot{Number: top32, Tick: top64, Root: strings.Repeat("\x00", 32), Size: top64})
	is("43415431 00000000 ffffffffffffffff 00000001 ffffffff ffffffffffffffff" + strings.Repeat("00", 32) + "ffffffffffffffff")
}

// TestLoadNone: P18.6, bytes that are none's, whatever length they have.
func TestLoadNone(t *testing.T) {
	for n := range 200 {
		for _, x := range []string{"\x00", "C", "\xff"} {
			if loads(t, "made up", strings.Repeat(x, n)) || loads(t, "made up, with the mark", "CAT1"+strings.Repeat(x, n)) {
				t.Errorf("%d bytes %q are taken", n, x)
			}
		}
	}
	if c, e := catalog.Load(nil); c != nil || e != api.ErrCatalog {
		t.Errorf("Load of none: error %d", e)
	}
}

// somePairs is catalogues of many kinds.
func somePairs(t *testing.T) []pair {
	t.Helper()
	gap := filled(t, 0, 2, 3, 9, 20)
	gap.drop(t, 2)
	gap.drop(t, 4)
	end := filled(t, 4, 5)
	end.drop(t, 2)
	none := filled(t, 0, 1, 2)
	none.retire(t, api.Policy{})
	return []pair{
		newPair(), filled(t, 0), filled(t, 7), filled(t, top64), filled(t, 0, 1, 2), filled(t, 3, 500, top64), gap, end, none,
		loaded(t, 0, top32-1), loaded(t, 0, 1<<40, at(3, 5), at(top32, 1<<40)), loaded(t, 300, 299, at(2, 1), at(256, 255)),
	}
}

// TestLoadCut: P18.6, cut short at each place, with one byte behind, and with a snapshot's bytes behind: ErrCatalog.
func TestLoadCut(t *testing.T) {
	for i, p := range somePairs(t) {
		b := string(p.real.Bytes())
		if !loads(t, "whole", b) {
			t.Errorf("the bytes of %d are refused", i)
		}
		for n := range len(b) {
			if loads(t, "cut short", b[:n]) {
				t.Errorf("%d of %d bytes are taken", n, len(b))
			}
		}
		for _, more := range []string{"\x00", "\xff", strings.Repeat("\x00", 52), b} {
			if loads(t, "more behind", b+more) {
				t.Errorf("%d bytes behind are taken", len(more))
			}
		}
	}
}

// TestLoadTurned: P18.6, each byte changed to each other one.
func TestLoadTurned(t *testing.T) {
	t.Parallel()
	for _, p := range somePairs(t) {
		b := p.real.Bytes()
		for i := range b {
			for x := range 255 {
				c := slices.Clone(b)
				c[i] += byte(x) + 1
				loads(t, "the byte "+strconv.Itoa(i), string(c))
			}
		}
	}
}

// TestLoadAll: P18.6, of all bytes with up to three snapshots of small numbers and ticks just those are taken to which some calls of Add and Drop lead; and all are that have more.
func TestLoadAll(t *testing.T) {
	t.Parallel()
	const ticks = 5
	all := map[string]bool{}
	var grow func(p *plain)
	grow = func(p *plain) {
		b := p.bytes()
		if all[b] {
			return
		}
		all[b] = true
		for tick := range uint64(ticks) {
			q := p.clone()
			if _, e := q.add(tick, root(0), 0); e == api.OK {
				grow(q)
			}
		}
		for _, s := range p.there {
			q := p.clone()
			q.drop(s.Number)
			grow(q)
		}
	}
	grow(&plain{})
	for b := range all {
		if !loads(t, "one that there can be", b) {
			t.Errorf("it is refused")
		}
	}
	taken := 0
	try := func(there []api.Snapshot) {
		for next := range uint32(ticks + 3) {
			for last := range uint64(ticks) {
				b := laid(next, last, there...)
				_, e := catalog.Load([]byte(b))
				if (e == api.OK) != all[b] {
					t.Fatalf("next %d, last %d, %v: error %d", next, last, there, e)
				}
				if e == api.OK {
					taken++
				}
			}
		}
	}
	var each []api.Snapshot
	for number := range uint32(ticks + 1) {
		for tick := range uint64(ticks) {
			each = append(each, api.Snapshot{Number: number, Tick: tick, Root: root(0)})
		}
	}
	try(nil)
	for _, x := range each {
		try([]api.Snapshot{x})
		for _, y := range each {
			try([]api.Snapshot{x, y})
			for _, z := range each {
				try([]api.Snapshot{x, y, z})
			}
		}
	}
	if taken < 100 {
		t.Errorf("just %d are taken", taken)
	}
}

// TestLoadFields: P18.6, each thing that can't be, one by one.
func TestLoadFields(t *testing.T) {
	for _, x := range []struct {
		name  string
		next  uint32
		last  uint64
		there []api.Snapshot
		is    bool
	}{
		{"a new one", 1, 0, nil, true},
		{"a last Tick where none was added", 1, 1, nil, false},
		{"the greatest last Tick where none was added", 1, top64, nil, false},
		{"a snapshot where none was added", 1, 0, []api.Snapshot{at(1, 0)}, false},
		{"a snapshot of the number 0", 2, 0, []api.Snapshot{at(0, 0)}, false},
		{"one", 2, 5, []api.Snapshot{at(1, 5)}, true},
		{"one, dropped", 2, 5, nil, true},
		{"one, dropped, of the greatest Tick", 2, top64, nil, true},
		{"a next number at the last Number", 2, 9, []api.Snapshot{at(1, 5), at(2, 9)}, false},
		{"a next number below the last Number", 1, 9, []api.Snapshot{at(1, 5), at(2, 9)}, false},
		{"a next number above them", 3, 9, []api.Snapshot{at(1, 5), at(2, 9)}, true},
		{"Numbers that fall", 3, 9, []api.Snapshot{at(2, 5), at(1, 9)}, false},
		{"Numbers that fall from above", 9, 30, []api.Snapshot{at(8, 5), at(1, 30)}, false},
		{"a Number twice", 3, 9, []api.Snapshot{at(2, 5), at(2, 9)}, false},
		{"a Number twice, as the last one", 3, 9, []api.Snapshot{at(1, 5), at(2, 9), at(2, 9)}, false},
		{"the Number 1 twice", 3, 9, []api.Snapshot{at(1, 5), at(1, 6)}, false},
		{"Ticks that fall", 3, 9, []api.Snapshot{at(1, 9), at(2, 5)}, false},
		{"a Tick twice", 3, 9, []api.Snapshot{at(1, 9), at(2, 9)}, false},
		{"a last Tick below one of the list's", 3, 4, []api.Snapshot{at(1, 5)}, false},
		{"a last Tick below the last one's", 3, 8, []api.Snapshot{at(1, 5), at(2, 9)}, false},
		{"a last Tick above the last one's", 3, 10, []api.Snapshot{at(1, 5), at(2, 9)}, false},
		{"a last Tick that is another's", 3, 5, []api.Snapshot{at(1, 5)}, false},
		{"a last Tick just behind", 3, 6, []api.Snapshot{at(1, 5)}, true},
		{"no room behind the list", 4, 6, []api.Snapshot{at(1, 5)}, false},
		{"room behind the list", 4, 7, []api.Snapshot{at(1, 5)}, true},
		{"no room between", 4, 6, []api.Snapshot{at(1, 5), at(3, 6)}, false},
		{"room between", 4, 7, []api.Snapshot{at(1, 5), at(3, 7)}, true},
		{"no room ahead", 4, 1, []api.Snapshot{at(3, 1)}, false},
		{"room ahead", 4, 2, []api.Snapshot{at(3, 2)}, true},
		{"no room, and none there", 4, 1, nil, false},
		{"room, and none there", 4, 2, nil, true},
		{"no room at the greatest Ticks", 4, top64, []api.Snapshot{at(1, top64-1)}, false},
		{"room at the greatest Ticks", 4, top64, []api.Snapshot{at(1, top64-2)}, true},
		{"no number left", 0, top64, nil, true},
		{"no number left, and just room", 0, top32 - 1, nil, true},
		{"no number left, and no room", 0, top32 - 2, nil, false},
		{"no number left, where it can't be", 0, 5, []api.Snapshot{at(1, 5)}, false},
		{"no number left, and just room behind the first", 0, top32 + 4, []api.Snapshot{at(1, 5)}, true},
		{"no number left, and no room behind the first", 0, top32 + 3, []api.Snapshot{at(1, 5)}, false},
		{"the last number alone", 0, top32 - 1, []api.Snapshot{at(top32, top32-1)}, true},
		{"the last number alone, and no room", 0, top32 - 2, []api.Snapshot{at(top32, top32-2)}, false},
		{"the last number, another last Tick", 0, 1 << 40, []api.Snapshot{at(top32, 1<<40-1)}, false},
		{"one number left, and just room", top32, top32 - 2, nil, true},
		{"one number left, and no room", top32, top32 - 3, nil, false},
		{"one number left, and the last one there", top32, 1 << 40, []api.Snapshot{at(top32, 1<<40)}, false},
	} {
		if is := loads(t, x.name, laid(x.next, x.last, x.there...)); is != x.is {
			t.Errorf("%s: the account takes it: %t", x.name, is)
		}
	}
}

// TestLoadCounts: P18.6, counts other than what follows, and above MaxSnapshots.
func TestLoadCounts(t *testing.T) {
	b := filled(t, 4, 5, 6).real.Bytes()
	for _, count := range []uint32{0, 1, 2, 4, 255, 256, 257, 3 << 8, 3 << 24, 1 << 31, top32, 3 + 1<<31, 330382103, 3 + 82595525} {
		c := slices.Clone(b)
		c[16], c[17], c[18], c[19] = byte(count>>24), byte(count>>16), byte(count>>8), byte(count)
		if loads(t, "another count", string(c)) {
			t.Errorf("the count %d is taken", count)
		}
	}
	var there []api.Snapshot
	for i := range uint32(api.MaxSnapshots + 2) {
		there = append(there, at(i+1, uint64(i)))
	}
	for n, w := range map[int]bool{255: true, 256: true, 257: false, 258: false} {
		if is := loads(t, "many", laid(uint32(n)+1, uint64(n-1), there[:n]...)); is != w {
			t.Errorf("%d snapshots are taken: %t", n, is)
		}
	}
}

// TestLoadFull: P18.6, where MaxSnapshots are there nothing can have been added behind the last of them; where one fewer is, all can.
func TestLoadFull(t *testing.T) {
	var there []api.Snapshot
	for i := range uint32(api.MaxSnapshots) {
		there = append(there, at(2*i+3, uint64(5*i)+100))
	}
	last := there[api.MaxSnapshots-1]
	for _, x := range []struct {
		name string
		next uint32
		tick uint64
		from int
		is   bool
	}{
		{"full", last.Number + 1, last.Tick, 0, true},
		{"full, one behind", last.Number + 2, last.Tick + 1, 0, false},
		{"full, many behind", last.Number + 100, last.Tick + 1000, 0, false},
		{"full, all numbers behind", 0, top64, 0, false},
		{"one fewer", last.Number + 1, last.Tick, 1, true},
		{"one fewer, one behind", last.Number + 2, last.Tick + 1, 1, true},
		{"one fewer, many behind", last.Number + 100, last.Tick + 1000, 1, true},
		{"one fewer, all numbers behind", 0, top64, 1, true},
	} {
		if is := loads(t, x.name, laid(x.next, x.tick, there[x.from:]...)); is != x.is {
			t.Errorf("%s: the account takes it: %t", x.name, is)
		}
	}
}

// TestLoadDrawn: P18.6, catalogues behind drawn acts, of which a number here and there is drawn anew.
func TestLoadDrawn(t *testing.T) {
	t.Parallel()
	d := dice(6)
	taken := 0
	for range 20000 {
		var there []api.Snapshot
		number, tick := uint32(d.below(4)), uint64(d.below(4))
		for range d.below(6) {
			number += uint32(d.below(4))
			tick += uint64(d.below(5))
			there = append(there, at(number, tick))
		}
		if loads(t, "drawn", laid(number+uint32(d.below(4)), tick+uint64(d.below(4)), there...)) {
			taken++
		}
	}
	if taken < 500 || taken > 19500 {
		t.Errorf("%d are taken", taken)
	}
}
