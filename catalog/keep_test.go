package catalog_test

import (
	"math"
	"slices"
	"testing"

	"granary/api"
	"granary/catalog"
)

// rules is so many that are right.
func rules(n int) []api.Rule { return slices.Repeat([]api.Rule{{Every: 3, Count: 2}}, n) }

// wrong is policies that CheckPolicy refuses.
func wrong() []api.Policy {
	out := []api.Policy{
		{Last: -1}, {Last: math.MinInt}, {Rules: rules(api.MaxRules + 1)}, {Last: 5, Rules: rules(100)},
		{Rules: []api.Rule{{}}}, {Rules: []api.Rule{{Every: 0, Count: 1}}}, {Rules: []api.Rule{{Every: 1, Count: -1}}}, {Last: 3, Rules: []api.Rule{{Every: top64, Count: math.MinInt}}},
		{Last: -1, Rules: rules(2)}, {Last: -1, Rules: []api.Rule{{Every: 0, Count: -1}}},
	}
	for i := range api.MaxRules {
		zero, below := rules(api.MaxRules), rules(api.MaxRules)
		zero[i].Every = 0
		below[i].Count = -1
		out = append(out, api.Policy{Last: 1, Rules: zero}, api.Policy{Last: 1, Rules: below})
	}
	return out
}

// right is policies that CheckPolicy takes.
func right() []api.Policy {
	out := []api.Policy{
		{}, {Rules: []api.Rule{}}, {Last: 1}, {Last: math.MaxInt}, {Rules: []api.Rule{{Every: 1}}}, {Rules: []api.Rule{{Every: 1, Count: 1}}},
		{Rules: []api.Rule{{Every: top64, Count: 1}}}, {Rules: []api.Rule{{Every: top64, Count: math.MaxInt}}}, {Rules: []api.Rule{{Every: 1, Count: math.MaxInt}}},
		{Last: math.MaxInt, Rules: rules(3)},
	}
	for n := range api.MaxRules + 1 {
		out = append(out, api.Policy{Last: n, Rules: rules(n)})
	}
	return out
}

// keeps: Keep tells what the account does.
func keeps(t *testing.T, y api.Policy, ticks ...uint64) {
	t.Helper()
	if got, w := catalog.Keep(y, ticks), keep(y, ticks); !slices.Equal(got, w) {
		t.Errorf("Keep(%v, %d): %v, want %v", y, ticks, got, w)
	}
}

// TestCheckPolicy: P18.1, each fault alone, at each place, and with another.
func TestCheckPolicy(t *testing.T) {
	for _, y := range wrong() {
		if e := catalog.CheckPolicy(y); e != api.ErrPolicy {
			t.Errorf("CheckPolicy(%v): error %d", y, e)
		}
	}
	for _, y := range right() {
		if e := catalog.CheckPolicy(y); e != api.OK {
			t.Errorf("CheckPolicy(%v): error %d", y, e)
		}
	}
}

// TestKeepExample: P18.2, the chapter's first example.
func TestKeepExample(t *testing.T) {
	y := api.Policy{Last: 1, Rules: []api.Rule{{Every: 10, Count: 2}}}
	if got := catalog.Keep(y, []uint64{1, 5, 12, 18, 31}); !slices.Equal(got, []bool{false, false, false, true, true}) {
		t.Error(got)
	}
}

// TestKeepValues: P18.2, with what is kept as values.
func TestKeepValues(t *testing.T) {
	rule := func(every uint64, count int) []api.Rule { return []api.Rule{{Every: every, Count: count}} }
	for _, x := range []struct {
		name  string
		y     api.Policy
		ticks []uint64
		kept  []uint64
	}{
		{"nothing", api.Policy{}, []uint64{1, 2, 3}, nil},
		{"the last", api.Policy{Last: 1}, []uint64{1, 2, 3}, []uint64{3}},
		{"all but one", api.Policy{Last: 2}, []uint64{1, 2, 3}, []uint64{2, 3}},
		{"as many as there are", api.Policy{Last: 3}, []uint64{1, 2, 3}, []uint64{1, 2, 3}},
		{"more than there are", api.Policy{Last: 4}, []uint64{1, 2, 3}, []uint64{1, 2, 3}},
		{"as many as can be", api.Policy{Last: math.MaxInt}, []uint64{1, 2, 3}, []uint64{1, 2, 3}},
		{"no boxes", api.Policy{Rules: rule(10, 0)}, []uint64{1, 2, 3}, nil},
		{"one box", api.Policy{Rules: rule(10, 1)}, []uint64{1, 2, 3}, []uint64{3}},
		{"one box that is looked at", api.Policy{Rules: rule(10, 1)}, []uint64{1, 12, 13}, []uint64{13}},
		{"as many boxes as there are", api.Policy{Rules: rule(10, 3)}, []uint64{1, 2, 12, 13, 25, 29}, []uint64{2, 13, 29}},
		{"more boxes than there are", api.Policy{Rules: rule(10, math.MaxInt)}, []uint64{1, 2, 12, 13, 25, 29}, []uint64{2, 13, 29}},
		{"empty boxes between", api.Policy{Rules: rule(10, 2)}, []uint64{1, 2, 93, 95, 1000, 1001}, []uint64{95, 1001}},
		{"at the edges", api.Policy{Rules: rule(10, 9)}, []uint64{0, 9, 10, 19, 20, 29, 30}, []uint64{9, 19, 29, 30}},
		{"each its own", api.Policy{Rules: rule(1, 2)}, []uint64{0, 1, 2, 3}, []uint64{2, 3}},
		{"the greatest box", api.Policy{Rules: rule(top64, 2)}, []uint64{0, 5, top64 - 1, top64}, []uint64{top64 - 1, top64}},
		{"the greatest box alone", api.Policy{Rules: rule(top64, 1)}, []uint64{0, 5, top64 - 1}, []uint64{top64 - 1}},
		{"the greatest ticks", api.Policy{Rules: rule(1, 1)}, []uint64{0, top64 - 1, top64}, []uint64{top64}},
		{"two rules", api.Policy{Rules: []api.Rule{{Every: 1, Count: 1}, {Every: 100, Count: 2}}}, []uint64{5, 60, 105, 106, 230}, []uint64{106, 230}},
		{"the last, and two rules", api.Policy{Last: 2, Rules: []api.Rule{{Every: 100, Count: 3}, {Every: 50, Count: 4}}}, []uint64{5, 60, 70, 105, 106, 229, 230}, []uint64{5, 70, 106, 229, 230}},
		{"a rule twice", api.Policy{Rules: []api.Rule{{Every: 10, Count: 1}, {Every: 10, Count: 1}}}, []uint64{1, 12, 13}, []uint64{13}},
		{"one", api.Policy{Last: 1}, []uint64{0}, []uint64{0}},
		{"one, by a rule", api.Policy{Rules: rule(7, 1)}, []uint64{0}, []uint64{0}},
		{"one, not kept", api.Policy{}, []uint64{0}, nil},
		{"none", api.Policy{Last: 4, Rules: rule(7, 1)}, nil, nil},
	} {
		got := catalog.Keep(x.y, x.ticks)
		var kept []uint64
		for i, is := range got {
			if is {
				kept = append(kept, x.ticks[i])
			}
		}
		if len(got) != len(x.ticks) || !slices.Equal(kept, x.kept) {
			t.Errorf("%s: %d answers, kept %d, want %d", x.name, len(got), kept, x.kept)
		}
		keeps(t, x.y, x.ticks...)
	}
}

// TestKeepRefused: P18.2, a policy that CheckPolicy refuses keeps all.
func TestKeepRefused(t *testing.T) {
	for _, y := range wrong() {
		for _, ticks := range [][]uint64{{}, {0}, {1, 2, 3}, {0, top64}} {
			got := catalog.Keep(y, ticks)
			if len(got) != len(ticks) || slices.Contains(got, false) {
				t.Errorf("Keep(%v, %d): %v", y, ticks, got)
			}
		}
	}
}

// TestKeepAll: P18.2, all lists of eight ticks and the greatest, with products of Last and rules.
func TestKeepAll(t *testing.T) {
	t.Parallel()
	var each []api.Rule
	for _, every := range []uint64{1, 2, 3, 5, top64} {
		for _, count := range []int{0, 1, 2, 3, math.MaxInt} {
			each = append(each, api.Rule{Every: every, Count: count})
		}
	}
	lists := [][]api.Rule{nil}
	for _, r := range each {
		lists = append(lists, []api.Rule{r})
		for _, s := range each[5:15] {
			lists = append(lists, []api.Rule{r, s})
		}
	}
	for set := range 1 << 9 {
		var ticks []uint64
		for i := range 8 {
			if set>>i&1 == 1 {
				ticks = append(ticks, uint64(i))
			}
		}
		if set>>8 == 1 {
			ticks = append(ticks, top64)
		}
		for _, l := range lists {
			for last := range 3 {
				keeps(t, api.Policy{Last: last, Rules: l}, ticks...)
			}
		}
	}
}

// TestKeepDrawn: P18.2, drawn lists of up to MaxSnapshots ticks and more, and drawn policies, with up to all rules that may be.
func TestKeepDrawn(t *testing.T) {
	t.Parallel()
	d := dice(18)
	for range 3000 {
		ticks := rising(&d, d.below(1+d.below(2*api.MaxSnapshots)))
		y := policy(&d)
		for len(y.Rules) > 0 && len(y.Rules) < api.MaxRules && d.below(3) > 0 {
			y.Rules = append(y.Rules, api.Rule{Every: uint64(1 + d.below(400)), Count: d.below(40)})
		}
		keeps(t, y, ticks...)
	}
}

// TestKeepOfOthers: of lists that do not rise nothing is said, but that Keep ends (rule 1), with as many answers as there are ticks, the same ones each time (rule 4).
func TestKeepOfOthers(t *testing.T) {
	for _, ticks := range [][]uint64{{3, 2, 1}, {5, 5, 5}, {top64, 0, top64}, {1, 50, 2, 60, 3}} {
		for _, y := range append(right(), wrong()...) {
			got := catalog.Keep(y, ticks)
			for range 5 {
				if again := catalog.Keep(y, ticks); len(got) != len(ticks) || !slices.Equal(got, again) {
					t.Errorf("Keep(%v, %d): %v, then %v", y, ticks, got, again)
				}
			}
		}
	}
}
