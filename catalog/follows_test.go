package catalog_test

import (
	"slices"
	"testing"

	"granary/api"
	"granary/catalog"
)

// less is a policy that keeps no more than y: with a smaller Last, and smaller Counts.
func less(d *dice, y api.Policy) api.Policy {
	out := api.Policy{Last: d.below(y.Last + 1), Rules: slices.Clone(y.Rules)}
	for i := range out.Rules {
		out.Rules[i].Count = d.below(out.Rules[i].Count + 1)
	}
	return out
}

// taken is a drawn policy that CheckPolicy takes.
func taken(d *dice) api.Policy {
	for {
		if y := policy(d); catalog.CheckPolicy(y) == api.OK {
			return y
		}
	}
}

// TestPure: P18.7, what is kept by less is kept by more; the last Last, at least, are kept; and nothing but ticks and the policy has a part in it.
func TestPure(t *testing.T) {
	t.Parallel()
	d := dice(7)
	fewer := 0
	for range 20000 {
		ticks := rising(&d, d.below(40))
		y := taken(&d)
		more, some := catalog.Keep(y, ticks), catalog.Keep(less(&d, y), ticks)
		for i := range ticks {
			if some[i] && !more[i] {
				t.Fatalf("Keep(%v, %d): less keeps the tick at %d, this does not", y, ticks, i)
			}
			if len(ticks)-i <= y.Last && !more[i] {
				t.Fatalf("Keep(%v, %d): one of the last at %d is not kept", y, ticks, i)
			}
		}
		if !slices.Equal(some, more) {
			fewer++
		}
		if again := catalog.Keep(y, ticks); !slices.Equal(again, more) {
			t.Fatalf("Keep(%v, %d): %v, then %v", y, ticks, more, again)
		}
	}
	if fewer < 1000 {
		t.Errorf("just %d keep less", fewer)
	}
}

// TestPureOfCatalogues: P18.7, two catalogues with the same ticks keep the same, whatever numbers, roots and sizes they have.
func TestPureOfCatalogues(t *testing.T) {
	d := dice(8)
	for range 2000 {
		ticks := rising(&d, 1+d.below(30))
		one, two := newPair(), newPair()
		for i := range uint64(d.below(3)) {
			if ticks[0] < 5 {
				break
			}
			two.add(t, i, root(1), 1)
			two.drop(t, uint32(two.told.added))
		}
		for _, x := range ticks {
			one.add(t, x, root(d.below(9)), uint64(d.below(9)))
			two.add(t, x, root(d.below(9)), uint64(d.below(9)))
		}
		y := taken(&d)
		one.retire(t, y)
		two.retire(t, y)
		if !slices.Equal(one.told.ticks(), two.told.ticks()) || one.real.Len() != two.real.Len() {
			t.Errorf("Retire(%v) of the ticks %d: %v and %v", y, ticks, one.real.List(), two.real.List())
		}
		one.agrees(t, "the one")
		two.agrees(t, "the other")
	}
}

// TestIdleAgain: P18.8, the second Retire with one rule and Last 0, or with no rule, drops nothing.
func TestIdleAgain(t *testing.T) {
	d := dice(9)
	for range 3000 {
		y := api.Policy{Last: d.below(8)}
		if d.below(2) == 0 {
			y = api.Policy{Rules: []api.Rule{{Every: uint64(1 + d.below(40)), Count: d.below(7)}}}
		}
		p := filled(t, rising(&d, d.below(40))...)
		p.retire(t, y)
		kept := string(p.real.Bytes())
		if l, e := p.retire(t, y); len(l) != 0 || e != api.OK || string(p.real.Bytes()) != kept {
			t.Errorf("Retire(%v) again drops %d", y, l)
		}
		p.agrees(t, "retired twice")
	}
}

// TestRising: P18.9, behind every act: Numbers and Ticks of List() rise, and no number is given again.
func TestRising(t *testing.T) {
	t.Parallel()
	for seed := range 300 {
		d := dice(1000 + seed)
		p := newPair()
		was := map[uint32]api.Snapshot{}
		greatest := uint32(0)
		for range 120 {
			name := p.act(t, &d)
			p.agrees(t, name)
			l := p.real.List()
			for i, s := range l {
				if i > 0 && (s.Number <= l[i-1].Number || s.Tick <= l[i-1].Tick) {
					t.Fatalf("%s: %v behind %v", name, s, l[i-1])
				}
				if known, is := was[s.Number]; is && known != s {
					t.Fatalf("%s: the number %d was another's", name, s.Number)
				} else if !is && s.Number <= greatest {
					t.Fatalf("%s: the number %d comes behind %d", name, s.Number, greatest)
				}
			}
			for _, s := range l {
				was[s.Number] = s
				greatest = max(greatest, s.Number)
			}
			if t.Failed() {
				t.Fatalf("seed %d", seed)
			}
		}
	}
}

// TestThereAndBack: P18.10, behind drawn acts a catalogue and what Load makes of its Bytes tell the same, and go on alike.
func TestThereAndBack(t *testing.T) {
	t.Parallel()
	for seed := range 200 {
		d := dice(5000 + seed)
		p := newPair()
		for range d.below(60) {
			p.act(t, &d)
		}
		b := p.real.Bytes()
		c, e := catalog.Load(b)
		if e != api.OK {
			t.Fatalf("seed %d: error %d", seed, e)
		}
		q := pair{c, p.told.clone()}
		q.agrees(t, "loaded")
		again := d
		for range 60 {
			name := p.act(t, &d)
			q.act(t, &again)
			p.agrees(t, name)
			q.agrees(t, name+", loaded")
			if string(p.real.Bytes()) != string(q.real.Bytes()) {
				t.Fatalf("seed %d: they part behind %s", seed, name)
			}
			if d.below(5) == 0 {
				q.real, _ = catalog.Load(q.real.Bytes())
			}
			again = d
		}
	}
}

// TestManyActs: P18.3 to P18.6, drawn acts on a catalogue that is full most of the time.
func TestManyActs(t *testing.T) {
	t.Parallel()
	d := dice(77)
	p := newPair()
	refused := map[api.Errno]int{}
	for i := range 3000 {
		switch d.below(40) {
		case 0:
			p.drop(t, p.told.there[d.below(len(p.told.there))].Number)
		case 1:
			if d.below(5) == 0 {
				p.retire(t, api.Policy{Last: 100, Rules: []api.Rule{{Every: uint64(1 + d.below(20)), Count: d.below(300)}}})
			}
		default:
			refused[p.add(t, p.told.last+uint64(d.below(5)), root(d.below(200)), uint64(d.below(99)))]++
		}
		if i%10 == 0 {
			p.agrees(t, "many")
			loads(t, "many", string(p.real.Bytes()))
		}
	}
	if refused[api.OK] < 300 || refused[api.ErrTick] < 300 || refused[api.ErrFull] < 300 {
		t.Errorf("answers of Add: %v", refused)
	}
}
