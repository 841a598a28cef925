package extents_test

import (
	"maps"
	"slices"
	"testing"

	"granary/api"
	"granary/btree"
	"granary/extents"
)

// everyCall is a call of each kind that changes or asks something, and more that make errors of their own.
func everyCall() []call {
	return []call{
		{kind: "Read", ino: 7, n: 1000}, {kind: "Read", ino: 7, n: -1}, {kind: "Read", ino: 7, at: greatest, n: 1}, {kind: "Read", ino: 7},
		{kind: "Write", ino: 7, p: "a"}, {kind: "Write", ino: 9, at: 500, p: text(1, 900)}, {kind: "Write", ino: 7, at: api.MaxFile, p: "a"}, {kind: "Write", ino: 7},
		{kind: "Write", ino: 7, at: api.MaxFile}, {kind: "Write", ino: 7, at: api.MaxFile + 1}, {kind: "Write", ino: 9, at: greatest},
		{kind: "Cut", ino: 7}, {kind: "Cut", ino: 7, at: 500}, {kind: "Cut", ino: 7, at: greatest}, {kind: "Drop", ino: 7}, {kind: "Drop", ino: 9},
		{kind: "Count", ino: 7}, {kind: "Pieces", ino: 7}, {kind: "Stretches", ino: 7}, {kind: "Numbers"},
	}
}

// dumb: behind an error no call changes anything, or uses the space at all, and each answers what P14.1 names.
func (x both) dumb() {
	x.t.Helper()
	asked, root, before := x.s.asked(), x.b.Root(), x.s.bytes()
	for range 2 {
		x.do(everyCall()...)
		x.held()
	}
	if x.s.asked() != asked || x.b.Root() != root || !maps.Equal(x.s.bytes(), before) {
		x.t.Fatalf("behind the error %d something was done", x.a.why)
	}
}

// TestOwnErrors: each error of its own stays, whatever comes behind it, and aborting both in either order leads back (P14.1, P14.7).
func TestOwnErrors(t *testing.T) {
	bad := map[api.Errno][]call{
		api.ErrArg: {{kind: "Read", ino: 7, n: -1}, {kind: "Read", ino: 7, at: greatest, n: leastInt}},
		api.ErrLong: {
			{kind: "Read", ino: 7, at: api.MaxFile, n: 1}, {kind: "Write", ino: 7, at: api.MaxFile, p: "a"}, {kind: "Write", at: 1, p: text(1, api.MaxFile)},
			{kind: "Read", ino: 7, at: api.MaxFile + 1}, {kind: "Write", ino: 7, at: api.MaxFile + 1}, {kind: "Write", ino: 9, at: greatest},
		},
	}
	for _, s := range spaces(t) {
		x := holey(t, s)
		before := s.bytes()
		for e, calls := range bad {
			for i, c := range calls {
				for _, ahead := range [][]call{nil, {{kind: "Write", ino: 7, at: 300, p: text(1, 500)}, {kind: "Drop", ino: 8}}} {
					x.do(ahead...)
					x.do(c)
					want(t, "Why", x.c.Why(), e)
					x.dumb()
					x.b.Put(nil, nil)
					want(t, "Why behind the batch's error", x.c.Why(), e)
					x.dumb()
					x.do(call{kind: []string{"Abort", "Undo"}[i%2]})
					x.backAt(before)
				}
			}
		}
	}
}

// hurt makes the batch have the error, by a call of it that the space refuses.
func (x both) hurt(e api.Errno) {
	x.t.Helper()
	x.s.refuseNext("Read", 1, e)
	x.b.Get([]byte("y"))
	x.s.refuseNext("Read", 0, e)
	x.a.why = e
	want(x.t, "the batch's Why", x.b.Why(), e)
}

// TestBatchsErrors: the batch's error is that of the contents, whichever it is, ahead of Open and behind it; behind one of them no other counts (P14.1).
func TestBatchsErrors(t *testing.T) {
	s := wide(t)
	for _, e := range []api.Errno{errRefused, api.ErrArg, api.ErrLong, api.ErrNone, api.ErrSpace, api.ErrNode} {
		x := holey(t, s)
		before := s.bytes()
		for i, ahead := range [][]call{nil, {{kind: "Write", ino: 7, at: 300, p: text(1, 500)}, {kind: "Cut", ino: 8, at: 10}}} {
			x.do(ahead...)
			x.hurt(e)
			x.dumb()
			x.do(call{kind: []string{"Abort", "Undo"}[i]})
			x.backAt(before)
		}
		x.hurt(e)
		x.c = extents.Open(x.b, s)
		x.dumb()
		x.do(call{kind: "Undo"})
		x.backAt(before)
		s.giveBack(s.taken())
	}
}

// TestBatchsErrorStays: what the contents have seen of the batch's error stays, also when the batch alone was aborted (P14.1).
func TestBatchsErrorStays(t *testing.T) {
	ways := map[string]func(x both){
		"Why":   func(x both) { want(x.t, "Why", x.c.Why(), errRefused) },
		"Write": func(x both) { x.c.Write(7, 0, []byte("a")) },
		"Cut":   func(x both) { x.c.Cut(7, 9) },
		"Read":  func(x both) { x.c.Read(7, 0, 1) },
		"Fresh": func(x both) { x.c.Fresh() },
		"Count": func(x both) { x.c.Count(7) },
	}
	for _, name := range slices.Sorted(maps.Keys(ways)) {
		x := holey(t, wide(t))
		before := x.s.bytes()
		x.do(call{kind: "Write", ino: 7, p: text(1, 1000)})
		x.hurt(errRefused)
		ways[name](x)
		want(t, "the batch's Abort", x.b.Abort(), api.OK)
		x.dumb()
		want(t, "Abort", x.c.Abort(), api.OK)
		x.a.plainly(call{kind: "Abort"})
		x.backAt(before)
	}
}

// TestMetStays: an error that a call of the contents meets in the batch is theirs from that call on, also when the batch alone was aborted (P14.1).
func TestMetStays(t *testing.T) {
	for _, c := range everyCall() {
		x := holey(t, wide(t))
		before := x.s.bytes()
		changes := x.s.changes()
		x.s.refuseNext("Read", 1, errRefused)
		really(x.b, x.c, c)
		met := x.s.refused > 0
		if met && x.s.changes() != changes {
			t.Errorf("%s: the tree could not be read, and something was changed", brief(c))
		}
		x.s.refuseNext("Read", 0, errRefused)
		if x.b.Why() != api.OK != met {
			t.Fatalf("%s: the batch's error %d, refused: %t", brief(c), x.b.Why(), met)
		}
		x.b.Abort()
		if x.a.why = c.fault(); met {
			x.a.why = errRefused
			x.dumb()
		}
		want(t, "Why", x.c.Why(), x.a.why)
		want(t, "Abort", x.c.Abort(), api.OK)
		x.b.Abort()
		x.a.plainly(call{kind: "Abort"})
		x.backAt(before)
	}
}

// script is drawn calls without errors of their own, that make contents greater, and then smaller again.
func script(d *dice) []call {
	var out []call
	for len(out) < 60 {
		c := drawnCall(d, []uint64{6, 7, 8, 9})
		if c.fault() == api.OK {
			out = append(out, c)
		}
	}
	for _, ino := range []uint64{6, 7, 9} {
		out = append(out, call{kind: "Write", ino: ino, at: 200, p: text(1, 1500)}, call{kind: "Cut", ino: ino, at: 700}, call{kind: "Drop", ino: ino})
	}
	return out
}

// unsure makes a call on both, of which the space may have refused a part: then the contents have that error.
func (x both) unsure(c call, refused func() bool) {
	x.t.Helper()
	plain := &account{first: x.a.first, now: maps.Clone(x.a.now), why: x.a.why}
	wanted, got := plain.plainly(c), really(x.b, x.c, c)
	if x.a.why == api.OK && refused() {
		plain.why, wanted = x.s.why, nothing(c.kind)
	}
	*x.a = *plain
	if got != wanted || x.c.Why() != x.a.why {
		x.t.Fatalf("%s: %.300s, error %d, want %.300s, error %d", brief(c), got, x.c.Why(), wanted, x.a.why)
	}
}

// TestRefused: the space refuses the n-th call, for every n of a script, with any error: the contents have that error from that call on, and aborting both leads back, in either order (P14.1, P14.3, P14.7).
func TestRefused(t *testing.T) {
	t.Parallel()
	d := dice(12)
	calls := script(&d)
	errors := []api.Errno{errRefused, api.ErrArg, api.ErrLong, api.ErrNone, api.ErrSpace}
	for _, s := range spaces(t) {
		x := holey(t, s)
		before := s.bytes()
		for _, of := range []string{"Take", "Give", "Write", "Read"} {
			n := 1
			for ; x.refusedAt(calls, of, n, errors[n%len(errors)]); n++ {
				x.do(call{kind: []string{"Abort", "Undo"}[n%2]})
				x.backAt(before)
			}
			x.do(call{kind: "Abort"})
			x.backAt(before)
			if n < 20 {
				t.Errorf("%s was called %d times", of, n-1)
			}
		}
	}
}

// refusedAt makes the calls while the space refuses the n-th of its calls of that name; whether there were so many.
func (x both) refusedAt(calls []call, of string, n int, why api.Errno) bool {
	x.t.Helper()
	x.s.refuseNext(of, n, why)
	for _, c := range calls {
		x.unsure(c, func() bool { return x.s.refused > 0 })
		if x.a.why != api.OK {
			break
		}
	}
	is := x.s.refused > 0
	x.s.refuseNext(of, 0, why)
	if is {
		x.dumb()
	}
	return is
}

// TestFull: a space with few blocks left, for every few: the space's error as soon as there is none, and aborting both leads back (P14.3, P14.7).
func TestFull(t *testing.T) {
	d := dice(10)
	calls := script(&d)
	full := 0
	for few := range 60 {
		s := wide(t)
		x := holey(t, s)
		before := s.bytes()
		s.most, s.why = len(s.blocks)+few, api.ErrSpace
		for _, c := range calls {
			x.unsure(c, func() bool { return x.c.Why() == api.ErrSpace })
		}
		if x.a.why == api.OK {
			x.held()
		} else {
			full++
			x.dumb()
		}
		x.do(call{kind: []string{"Abort", "Undo"}[few%2]})
		x.backAt(before)
	}
	if full < 10 || full > 50 {
		t.Errorf("%d of the spaces were too small", full)
	}
}

// TestFullGoesOn: in a space that is too small calls go on behind aborting both, and in the next batch, as the account says.
func TestFullGoesOn(t *testing.T) {
	d := dice(11)
	s := wide(t)
	x := holey(t, s)
	s.most, s.why = len(s.blocks)+16, api.ErrSpace
	full := 0
	for range 2000 {
		c := drawnCall(&d, []uint64{6, 7, 8, 9})
		x.unsure(c, func() bool { return x.c.Why() == api.ErrSpace })
		switch {
		case x.a.why != api.OK:
			full++
			x.do(call{kind: one(&d, []string{"Abort", "Undo"})})
			x.held()
		case d.below(4) == 0:
			x = x.settled()
		}
	}
	if full < 20 {
		t.Errorf("the space was full %d times", full)
	}
}

// TestAbort: behind any calls, in either order; the contents are as Open made them, and are used again (P14.7).
func TestAbort(t *testing.T) {
	d := dice(5)
	for _, s := range spaces(t) {
		x := holey(t, s)
		before := s.bytes()
		for i := range 60 {
			for range d.below(12) {
				x.do(drawnCall(&d, []uint64{6, 7, 8, 9}))
			}
			x.do(call{kind: []string{"Abort", "Undo"}[i%2]})
			x.backAt(before)
			x.do(call{kind: "Abort"}, call{kind: "Undo"})
			x.backAt(before)
		}
	}
}

// TestAbortOfNothing: contents that have taken nothing give nothing back (P14.7).
func TestAbortOfNothing(t *testing.T) {
	s := wide(t)
	x := holey(t, s)
	x.do(call{kind: "Read", ino: 7, n: 9}, call{kind: "Cut", ino: 7, at: api.MaxFile}, call{kind: "Write", ino: 7})
	asked := s.asked()
	want(t, "Abort", x.c.Abort(), api.OK)
	if s.asked() != asked {
		t.Errorf("Abort has used the space")
	}
}

// TestAbortRefused: where Give is refused, Abort tells the first error, the rest is given back all the same, the contents are as Open made them, and what was refused is given back by the next Abort (P14.7).
func TestAbortRefused(t *testing.T) {
	calls := []call{{kind: "Write", ino: 7, at: 100, p: text(1, 2000)}, {kind: "Drop", ino: 8}, {kind: "Cut", ino: 6, at: 500}, {kind: "Write", ino: 9, p: "a"}}
	for _, s := range spaces(t) {
		s.varied = true
		x := holey(t, s)
		before := s.bytes()
		x.do(calls...)
		many := len(x.c.Fresh())
		for n := -1; n <= many+1; n++ {
			x.do(call{kind: "Undo"})
			x.do(calls...)
			wanted, left := api.OK, 0
			if n != 0 && n <= many {
				wanted, left = errRefused, 1
			}
			if n == -1 {
				left = many
			}
			want(t, "the batch's Abort", x.b.Abort(), api.OK)
			s.refuseNext("Give", n, errRefused)
			want(t, "Abort", x.c.Abort(), wanted)
			s.refuseNext("Give", 0, errRefused)
			x.a.plainly(call{kind: "Abort"})
			told(t, "Gone", x.c.Gone())
			told(t, "Fresh", x.c.Fresh())
			x.do(call{kind: "Read", ino: 7, n: 3000}, call{kind: "Numbers"})
			if got := len(s.blocks) - len(before); got != left {
				t.Errorf("the %d-th Give is refused: %d blocks are left, want %d", n, got, left)
			}
			x.do(call{kind: "Write", ino: 7, p: "again"}, call{kind: "Read", ino: 7, n: 30})
			x.do(call{kind: "Abort"})
			x.backAt(before)
		}
	}
}

// TestRefusedTwice: what is refused behind an error, too, does not take its place, and is given back by the next Abort (P14.1, P14.7).
func TestRefusedTwice(t *testing.T) {
	s := wide(t)
	x := holey(t, s)
	before := s.bytes()
	x.do(call{kind: "Write", ino: 7, p: text(1, 2000)})
	s.refuseNext("Give", -1, api.ErrNone)
	x.c.Drop(7)
	want(t, "Why", x.c.Why(), api.ErrNone)
	s.why = api.ErrLong
	x.c.Drop(7)
	x.c.Read(7, 0, -1)
	want(t, "Why", x.c.Why(), api.ErrNone)
	want(t, "Abort", x.c.Abort(), api.ErrLong)
	want(t, "Abort of the batch", x.b.Abort(), api.ErrLong)
	s.refuseNext("Give", 0, errRefused)
	x.a.plainly(call{kind: "Abort"})
	x.do(call{kind: "Abort"})
	x.backAt(before)
}

// TestUseWithoutAbort: contents whose batch alone was aborted, or that alone were, are not said anything of; all the same no call panics (rule 1).
func TestUseWithoutAbort(t *testing.T) {
	d := dice(6)
	for range 200 {
		s := newRoom(t, 200)
		x := holey(t, s)
		s.quiet = true
		for range 40 {
			switch d.below(10) {
			case 0:
				x.b.Abort()
			case 1:
				x.c.Abort()
			case 2:
				x.b = btree.Open(s, x.b.Root())
				x.c = extents.Open(x.b, s)
			default:
				really(x.b, x.c, drawnCall(&d, []uint64{7, 8}))
			}
		}
		x.c.Blocks()
		x.c.Gone()
		x.c.Fresh()
	}
}
