package catalog_test

import (
	"bytes"
	"slices"
	"testing"

	"granary/api"
	"granary/catalog"
)

// TestHandedIn: ticks, rules and bytes that are handed in are not changed, their spare room neither (rule 3).
func TestHandedIn(t *testing.T) {
	ticks := append([]uint64{1, 5, 12, 18, 31}, 99, 98, 97)
	rules := []api.Rule{{Every: 10, Count: 2}, {Every: 3, Count: 1}, {Every: 77, Count: 77}, {Every: 0, Count: -1}}
	for n := range len(rules) + 1 {
		y := api.Policy{Last: 1, Rules: rules[:n]}
		catalog.CheckPolicy(y)
		catalog.Keep(y, ticks[:5])
		filled(t, 1, 5, 12).retire(t, y)
	}
	if !slices.Equal(ticks, []uint64{1, 5, 12, 18, 31, 99, 98, 97}) {
		t.Errorf("ticks are changed: %d", ticks)
	}
	if !slices.Equal(rules, []api.Rule{{Every: 10, Count: 2}, {Every: 3, Count: 1}, {Every: 77, Count: 77}, {Every: 0, Count: -1}}) {
		t.Errorf("rules are changed: %v", rules)
	}
	for _, p := range somePairs(t) {
		b := p.real.Bytes()
		whole := append(slices.Clone(b), "behind it"...)
		kept := slices.Clone(whole)
		catalog.Load(whole[:len(b)])
		catalog.Load(whole)
		if !bytes.Equal(whole, kept) {
			t.Errorf("bytes are changed")
		}
	}
}

// TestNotKept: what is handed in may be changed behind (rule 3).
func TestNotKept(t *testing.T) {
	for _, p := range somePairs(t) {
		b := append(p.real.Bytes(), make([]byte, 60)...)
		b = b[:len(b)-60]
		c, _ := catalog.Load(b)
		spoil(b, '!')
		pair{c, p.told}.agrees(t, "bytes that are changed behind Load")
	}
	p := filled(t, 1, 5, 12, 18, 31)
	y := api.Policy{Rules: []api.Rule{{Every: 10, Count: 9}}}
	p.retire(t, y)
	y.Rules[0] = api.Rule{Every: 1, Count: 1}
	p.agrees(t, "rules that are changed behind Retire")
	p.retire(t, api.Policy{Last: 2})
	p.agrees(t, "another policy")
}

// TestAnswersAreNew: whoever writes over an answer, its spare room too, changes neither the catalogue nor another answer (rule 3).
func TestAnswersAreNew(t *testing.T) {
	for _, p := range append(somePairs(t), filled(t, rising(new(dice), 100)...)) {
		for range 2 {
			list, roots, b := p.real.List(), p.real.Roots(), p.real.Bytes()
			p.agrees(t, "ahead of it")
			list2, roots2, b2 := p.real.List(), p.real.Roots(), p.real.Bytes()
			spoil(list, api.Snapshot{Number: 77, Tick: 77, Root: "spoilt"})
			spoil(roots, "spoilt")
			spoil(b, '!')
			if !slices.Equal(list2, p.told.there) || !slices.Equal(roots2, p.told.roots()) || string(b2) != p.told.bytes() {
				t.Errorf("two answers share something")
			}
			p.agrees(t, "answers that are written over")
			p.add(t, p.told.last+1, root(3), 1)
			p.agrees(t, "Add behind answers that are written over")
		}
		copied := pair{p.real.Copy(), p.told.clone()}
		l, _ := p.retire(t, api.Policy{Last: 2})
		spoil(l, 9)
		p.agrees(t, "the answer of Retire is written over")
		copied.agrees(t, "the copy")
	}
	ticks := []uint64{1, 2, 3}
	one, two := catalog.Keep(api.Policy{Last: 1}, ticks), catalog.Keep(api.Policy{Last: 1}, ticks)
	spoil(one, true)
	if !slices.Equal(two, []bool{false, false, true}) {
		t.Errorf("two answers of Keep share something")
	}
}

// TestListStays: what List, Roots and Bytes have told stays as it was, whatever is done behind (rule 3).
func TestListStays(t *testing.T) {
	d := dice(4)
	p := filled(t, rising(&d, 20)...)
	for range 200 {
		list, roots, b := p.real.List(), p.real.Roots(), p.real.Bytes()
		kept, keptRoots, keptBytes := slices.Clone(list), slices.Clone(roots), slices.Clone(b)
		p.act(t, &d)
		if !slices.Equal(list, kept) || !slices.Equal(roots, keptRoots) || !bytes.Equal(b, keptBytes) {
			t.Fatalf("an answer changes behind an act")
		}
	}
}

// TestSameEachTime: what is told twice is the same, and changes nothing (rule 4).
func TestSameEachTime(t *testing.T) {
	for _, p := range somePairs(t) {
		for range 5 {
			p.agrees(t, "told again")
			catalog.Load(p.real.Bytes())
			p.real.Copy().Add(top64, root(1), 1)
		}
	}
}
