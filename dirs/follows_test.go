package dirs_test

import (
	"maps"
	"slices"
	"testing"

	"granary/api"
	"granary/btree"
	"granary/dirs"
)

// walk is a walk by List from cookie to cookie: what it has seen, and of what was there when it began what is there still.
type walk struct {
	t     *testing.T
	after uint64
	seen  map[uint64]int
	stay  map[uint64]string
	ended bool
}

// begin is a walk of a directory from its first entry on.
func begin(t *testing.T, b *btree.Batch, dir uint64) *walk {
	w := &walk{t: t, seen: map[uint64]int{}, stay: map[uint64]string{}}
	for x := range dirs.Each(b, dir) {
		w.stay[x.Cookie] = x.Name
	}
	return w
}

// step lists the next entries: each is behind the last one, and as Find tells it.
func (w *walk) step(b *btree.Batch, dir uint64, most int) {
	w.t.Helper()
	l, end, e := dirs.List(b, dir, w.after, most)
	want(w.t, "List", e, api.OK)
	for _, x := range l {
		w.seen[x.Cookie]++
		if got, e := dirs.Find(b, dir, x.Name); got != x || e != api.OK || x.Cookie <= w.after {
			w.t.Fatalf("a walk behind %d sees %+v; Find: %+v, error %d", w.after, x, got, e)
		}
		w.after = x.Cookie
	}
	w.ended = end
}

// held: each entry that was there all the time was seen, none twice.
func (w *walk) held() {
	w.t.Helper()
	for cookie, name := range w.stay {
		if w.seen[cookie] != 1 {
			w.t.Errorf("the entry %q with the cookie %d was seen %d times", name, cookie, w.seen[cookie])
		}
	}
	for cookie, n := range w.seen {
		if n != 1 {
			w.t.Errorf("the cookie %d was seen %d times", cookie, n)
		}
	}
}

// shake makes a drawn change of the directory; what is taken out is there no more all the time.
func (w *walk) shake(b *btree.Batch, dir uint64, d *dice) {
	w.t.Helper()
	name := numbered("x", d.below(60), 2)
	switch d.below(3) {
	case 0:
		dirs.Add(b, dir, name, uint64(d.below(100)))
	case 1:
		dirs.Set(b, dir, name, uint64(d.below(100)))
	default:
		if x, e := dirs.Remove(b, dir, name); e == api.OK {
			delete(w.stay, x.Cookie)
		}
	}
	want(w.t, "Why", b.Why(), api.OK)
}

// TestWalk: walks with pages of all sizes, and drawn changes between their steps, also by other batches (P13.8).
func TestWalk(t *testing.T) {
	d := dice(8)
	for most := 1; most < 40; most += 1 + most/4 {
		for _, many := range []int{0, 1, 5, 30} {
			s := wide()
			b := btree.Open(s, empty(t, s))
			want(t, "Make", dirs.Make(b, 3), api.OK)
			for i := range 60 {
				if i%2 == 0 {
					dirs.Add(b, 3, numbered("x", i, 2), 7)
				}
			}
			for range 5 {
				w := begin(t, b, 3)
				for steps := 0; !w.ended; steps++ {
					w.step(b, 3, most)
					for range many {
						if steps < 100 {
							w.shake(b, 3, &d)
						}
					}
					if steps > 1000 {
						t.Fatalf("the walk does not end")
					}
				}
				w.held()
				b = btree.Open(s, b.Root())
			}
		}
	}
}

// TestWalkStill: while nothing changes, a walk sees all of it in as many steps as it must, and the last one tells that it is the last (P13.8).
func TestWalkStill(t *testing.T) {
	b, all := crowd(t, wide(), 50)
	for most := 1; most <= 52; most++ {
		w := begin(t, b, 1)
		steps := 0
		for ; !w.ended; steps++ {
			w.step(b, 1, most)
		}
		w.held()
		if wanted := (len(all) + most - 1) / most; steps != wanted || len(w.seen) != len(all) {
			t.Errorf("%d at most: %d steps, %d entries, want %d", most, steps, len(w.seen), wanted)
		}
	}
}

// TestWalkFromGone: a walk goes on behind an entry that is there no more, and behind all that were ahead of it (P13.8).
func TestWalkFromGone(t *testing.T) {
	b, all := crowd(t, wide(), 50)
	w := begin(t, b, 1)
	for i, x := range all {
		w.step(b, 1, 1)
		if w.after != x.Cookie || w.ended != (i == len(all)-1) {
			t.Fatalf("a walk is at %d, and ends: %t; want %d", w.after, w.ended, x.Cookie)
		}
		if _, e := dirs.Remove(b, 1, x.Name); e != api.OK {
			t.Fatalf("Remove: error %d", e)
		}
	}
	w.held()
}

// TestWalkOfRenewed: an entry that is taken out and added again ahead of a walk's place stands behind it, as another one (P13.8).
func TestWalkOfRenewed(t *testing.T) {
	b, all := crowd(t, wide(), 10)
	w := begin(t, b, 1)
	w.step(b, 1, 5)
	for _, x := range all[:5] {
		dirs.Remove(b, 1, x.Name)
		delete(w.stay, x.Cookie)
		cookie, e := dirs.Add(b, 1, x.Name, 1)
		want(t, "Add", e, api.OK)
		w.stay[cookie] = x.Name
	}
	w.step(b, 1, 100)
	w.held()
	if len(w.seen) != 15 || !w.ended {
		t.Errorf("%d entries were seen", len(w.seen))
	}
}

// TestApart: what is done with one directory changes no other, and no key that begins with another byte; directories with all neighbouring numbers, and names like keys (P13.9).
func TestApart(t *testing.T) {
	d := dice(9)
	for _, dir := range numbers() {
		x := begun(t, wide())
		around := []uint64{dir - 256, dir - 2, dir - 1, dir, dir + 1, dir + 2, dir + 256, dir ^ 1<<63, dir << 8, dir >> 8}
		for _, at := range around {
			x.do(call{kind: "Make", dir: at}, call{kind: "Add", dir: at, name: "a", ino: at}, call{kind: "Add", dir: at, name: "\xff", ino: at})
		}
		x = x.next()
		before := whole(x.b)
		for range 100 {
			x.do(drawnCall(&d, []uint64{dir}, 40))
		}
		for other := range x.a.now {
			if other != dir {
				x.do(call{kind: "List", dir: other, most: greatestInt}, call{kind: "Find", dir: other, name: "a"})
			}
		}
		x.held()
		for e := range dirs.Each(x.b, dir) {
			x.do(call{kind: "Remove", dir: dir, name: e.Name})
		}
		x.do(call{kind: "Erase", dir: dir}, call{kind: "Make", dir: dir})
		x.do(call{kind: "Add", dir: dir, name: "a", ino: dir}, call{kind: "Add", dir: dir, name: "\xff", ino: dir})
		if k := unlike(before, whole(x.b)); k != "" {
			t.Fatalf("the same is there again, but the key %q has something else", k)
		}
	}
}

// script is drawn calls that grow some directories, then make them smaller again, and erase one; none of them is Abort.
func script(d *dice) []call {
	out := []call{{kind: "Make", dir: 0}, {kind: "Make", dir: 1}, {kind: "Make", dir: 2}}
	for i := range 90 {
		c := drawnCall(d, []uint64{0, 1, 2}, 60-i/30*30)
		if c.kind != "Abort" {
			out = append(out, c)
		}
	}
	for _, name := range names() {
		out = append(out, call{kind: "Remove", dir: 1, name: name})
	}
	return append(out, call{kind: "Erase", dir: 1}, call{kind: "List", most: 30}, call{kind: "Each"}, call{kind: "Count"})
}

// unsure makes a call on both, of which the space may have refused a part: then the answer is the batch's error, and the batch is as it says.
func (x both) unsure(c call, refused func() bool) {
	x.t.Helper()
	plain := &account{first: x.a.first, now: maps.Clone(x.a.now), why: x.a.why}
	wanted, got := plain.plainly(c), really(x.b, c)
	if x.a.why == api.OK && refused() {
		*x.a = account{first: x.a.first, now: x.a.first, why: x.b.Why()}
		wanted = nothing(c.kind, x.b.Why())
	} else {
		*x.a = *plain
	}
	if got != wanted || x.b.Why() != x.a.why {
		x.t.Fatalf("%+v: %.500s, the batch's error %d, want %.500s, %d", c, got, x.b.Why(), wanted, x.a.why)
	}
}

// full: the call has met the end of the space. One that only asks, or has an error of its own, can not.
func (x both) full(c call) bool {
	return c.changing() && x.a.fault(c) == api.OK && x.b.Why() == api.ErrSpace
}

// planted is both, on a tree with some directories that have some of the names.
func planted(t *testing.T, s *room) both {
	t.Helper()
	x := begun(t, s)
	x.do(call{kind: "Make", dir: 1}, call{kind: "Make", dir: 2}, call{kind: "Make", dir: 4})
	for i, name := range names() {
		x.do(call{kind: "Add", dir: 1, name: name, ino: uint64(i)})
		if i%2 == 0 {
			x.do(call{kind: "Add", dir: 2, name: name, ino: uint64(i)})
		}
	}
	s.giveBack(t, x.b.Gone())
	return x.next()
}

// TestFull: a space with few blocks left, for every few: a call that needs one more answers the space's error, and the batch's tree is the first one; calls that only ask, and calls with an error of their own, answer as ever (the paragraph ahead of P13.1).
func TestFull(t *testing.T) {
	d := dice(10)
	calls := script(&d)
	full := 0
	for few := range 60 {
		s := wide()
		x := planted(t, s)
		before := s.bytes()
		s.most = len(s.blocks) + few
		first := x.b.Root()
		for _, c := range calls {
			x.unsure(c, func() bool { return x.full(c) })
			if x.b.Why() == api.OK {
				continue
			}
			if x.b.Root() != first || !maps.Equal(s.bytes(), before) {
				t.Fatalf("%+v has the error %d, and the batch has changed", c, x.b.Why())
			}
		}
		if x.b.Why() == api.ErrSpace {
			full++
		}
		x.do(call{kind: "Abort"})
		x.held()
	}
	if full < 10 || full > 50 {
		t.Errorf("%d of the spaces were too small", full)
	}
}

// TestFullGoesOn: in a space that is too small calls go on behind Abort, and in the next batch, as the account says.
func TestFullGoesOn(t *testing.T) {
	d := dice(11)
	s := wide()
	x := planted(t, s)
	s.most = len(s.blocks) + 12
	full := 0
	for range 3000 {
		c := drawnCall(&d, []uint64{0, 1, 2, 3}, 40)
		x.unsure(c, func() bool { return x.full(c) })
		switch {
		case x.b.Why() != api.OK:
			full++
			x.do(call{kind: "Abort"})
			x.held()
		case d.below(4) == 0:
			s.giveBack(t, x.b.Gone())
			x = x.next()
		}
	}
	if full < 20 {
		t.Errorf("the space was full %d times", full)
	}
}

// TestRefused: the space refuses the n-th call, for every n, of each call of the package, with any error, also one that the chapter has another meaning for: the answer is that error and nothing else, and the batch is as it says.
func TestRefused(t *testing.T) {
	s := wide()
	x := planted(t, s)
	before := s.bytes()
	refused := map[string]int{}
	for _, why := range []api.Errno{errRefused, api.ErrNone, api.ErrThere, api.ErrName, api.ErrNotEmpty, api.ErrArg} {
		for _, kind := range kinds() {
			for _, name := range []string{"n", "new", "..", "\xff"} {
				for dir := range uint64(5) {
					for _, of := range []string{"Read", "Take", "Write", "Give"} {
						c := call{kind: kind, dir: dir, name: name, ino: 9, most: 20}
						n := 1
						for ; x.refusedAt(c, of, n, why); n++ {
							refused[kind+" "+of]++
						}
						s.refuseNext(of, 0, why)
					}
				}
			}
		}
	}
	for _, kind := range kinds() {
		if refused[kind+" Read"] == 0 || (call{kind: kind}).changing() && refused[kind+" Take"]*refused[kind+" Write"] == 0 {
			t.Errorf("%s was refused too rarely: %v", kind, refused)
		}
	}
	if !maps.Equal(s.bytes(), before) {
		t.Errorf("the blocks have changed")
	}
	x.held()
}

// refusedAt makes a call, of which the space refuses the n-th of its calls with that name; whether there were so many. Behind it the batch is aborted.
func (x both) refusedAt(c call, of string, n int, why api.Errno) bool {
	x.t.Helper()
	root := x.b.Root()
	x.s.refuseNext(of, n, why)
	x.unsure(c, func() bool { return x.s.done > 0 })
	is := x.s.done > 0
	if is && (x.b.Why() != why || x.b.Root() != root) {
		x.t.Fatalf("%+v: the batch's error %d, want %d; root %d, want %d", c, x.b.Why(), why, x.b.Root(), root)
	}
	x.s.refuseNext(of, 0, why)
	x.do(call{kind: "Abort"})
	return is
}

// TestBatches: several batches on one root do not see each other, and an older root has what it had (P11.10, as far as directories go).
func TestBatches(t *testing.T) {
	d := dice(12)
	s := wide()
	x := planted(t, s)
	y := both{t, s, btree.Open(s, x.b.Root()), newAccount(x.a.first)}
	old := both{t, s, btree.Open(s, x.b.Root()), newAccount(x.a.first)}
	for range 300 {
		x.do(drawnCall(&d, []uint64{0, 1, 2, 3}, 40))
		y.do(drawnCall(&d, []uint64{0, 1, 2, 3}, 20))
	}
	x.held()
	y.held()
	old.held()
}

// TestSameCalls: what is answered, and what is put, hangs on the calls alone (rule 4).
func TestSameCalls(t *testing.T) {
	var blocks map[int]string
	for range 4 {
		d := dice(15)
		s := wide()
		b := btree.Open(s, empty(t, s))
		for _, c := range slices.Concat(script(&d), script(&d)) {
			really(b, c)
		}
		if blocks != nil && !maps.Equal(s.bytes(), blocks) {
			t.Fatalf("the same calls, and other blocks")
		}
		blocks = s.bytes()
	}
}
