package fsops_test

import (
	"maps"
	"slices"
	"testing"

	"granary/api"
	"granary/fsops"
)

// state is all that a call with an error may not change.
type state struct {
	root   int
	blocks []int
	taken  map[int]string
}

// state is the FS's as it is now.
func (x *both) state() state {
	taken := map[int]string{}
	for b, p := range x.s.blocks {
		taken[b] = string(p)
	}
	return state{x.f.Root(), x.f.Blocks(), taken}
}

// unchanged: nothing has changed since then.
func (x *both) unchanged(name string, was state) {
	x.t.Helper()
	if x.f.Root() != was.root || !maps.Equal(x.state().taken, was.taken) {
		x.t.Fatalf("%s: something has changed", name)
	}
	told(x.t, name+", Blocks", x.f.Blocks(), was.blocks...)
}

// usesOf is how often a call uses the space, in each of its ways, on the tree as it is.
func (x *both) usesOf(c call) map[string]int {
	x.t.Helper()
	f := opened(x.t, x.s, x.f.Root())
	if x.w.fixed {
		f = viewed(x.t, x.s, x.f.Root(), x.w.fs)
	}
	before, counted := x.s.taken(), maps.Clone(x.s.calls)
	really(x.t, f, c)
	out := map[string]int{}
	for of, n := range x.s.calls {
		out[of] = n - counted[of]
	}
	x.s.giveBack(minus(x.s.taken(), before))
	return out
}

// resist makes a call while the space refuses the n-th of its uses, for each: it has that error, of Take ErrNoSpace, and nothing has changed; and then makes the call.
func (x *both) resist(c call, errors []api.Errno) int {
	x.t.Helper()
	many := 0
	uses := x.usesOf(c)
	was := x.state()
	for _, of := range []string{"Take", "Give", "Write", "Read"} {
		for n := 1; n <= uses[of]; n++ {
			e := errors[n%len(errors)]
			x.s.refuseNext(of, n, e)
			if of == "Take" {
				x.s.refuse["Give"] = x.s.calls["Give"] + 1 + n%3 // and one of those that are given back then
			}
			got := really(x.t, x.f, c)
			if of == "Take" {
				e = api.ErrNoSpace
			}
			if x.s.refused == 0 {
				x.t.Fatalf("%s: nothing was refused", brief(c))
			}
			x.s.willing()
			if !same(got, answer{e: e}) {
				x.t.Fatalf("%s, the %d-th %s is refused: %s, want error %d", brief(c), n, of, brief(got), e)
			}
			x.unchanged(brief(c), was)
			many++
		}
	}
	x.do(c)
	return many
}

// TestRefused: a space that refuses the n-th use of each call, for every n, with any error: the call has that error, of Take ErrNoSpace, and has changed nothing, what Settle tells neither (P15.17, P15.18).
func TestRefused(t *testing.T) {
	t.Parallel()
	errors := []api.Errno{errRefused, api.ErrArg, api.ErrNone, api.ErrThere, api.ErrSpace, api.ErrStale, api.ErrFull, api.ErrNotEmpty, api.ErrLong}
	many := 0
	for i, s := range spaces(t) {
		x := yard(t, s)
		x.watch, x.seen = true, x.f.Blocks()
		for _, c := range everyCall(x) {
			many += x.resist(c, errors)
		}
		d := &drawer{d: dice(40 + i)}
		for range 120 {
			many += x.resist(d.call(x.w), errors)
			if d.d.below(9) == 0 {
				x.settle()
			}
		}
		x.held()
		x.settle()
	}
	if many < 3000 {
		t.Errorf("%d calls were refused", many)
	}
}

// TestRefusedView: what is asked of a view whose space refuses the n-th Read is that error (P15.5 to P15.8, P15.15).
func TestRefusedView(t *testing.T) {
	x := yard(t, wide(t))
	v := version{x.f.Root(), x.w}.view(x, 4)
	many := 0
	for _, c := range everyCall(v) {
		many += v.resist(c, []api.Errno{errRefused, api.ErrNone})
	}
	if many < 20 {
		t.Errorf("%d calls were refused", many)
	}
}

// TestBlocksRefused: where the space refuses a Read, Blocks tells none, and nothing has changed.
func TestBlocksRefused(t *testing.T) {
	x := yard(t, wide(t))
	was := x.state()
	n := 1
	for ; ; n++ {
		x.s.refuseNext("Read", n, errRefused)
		got := x.f.Blocks()
		if x.s.refused == 0 {
			break
		}
		x.s.willing()
		told(t, "Blocks", got)
		x.unchanged("Blocks", was)
	}
	if n < 3 {
		t.Errorf("Blocks reads %d times", n-1)
	}
}

// TestGiveRefused: also where Give is refused each time, a call that has an error leaves the tree as it was.
func TestGiveRefused(t *testing.T) {
	x := yard(t, wide(t))
	for _, c := range everyCall(x) {
		if c.asks() {
			continue
		}
		uses := x.usesOf(c)
		root, blocks := x.f.Root(), x.f.Blocks()
		for n := 1; n <= uses["Take"]; n++ {
			x.s.refuseNext("Take", n, errRefused)
			x.s.refuse["Give"] = -1
			want(t, brief(c), really(t, x.f, c).e, api.ErrNoSpace)
			x.s.willing()
			if x.f.Root() != root {
				t.Fatalf("%s: another root", brief(c))
			}
			told(t, "Blocks", x.f.Blocks(), blocks...)
			told(t, "Settle", x.f.Settle())
		}
	}
	x.held()
}

// TestFull: spaces with few blocks left, for every few: each call is done, or is ErrNoSpace, behind all of its other errors, and has changed nothing; and what is settled is there again for the next ones (P15.17, P15.18).
func TestFull(t *testing.T) {
	t.Parallel()
	full, done := 0, 0
	for few := range 50 {
		x := yard(t, wide(t))
		x.watch, x.seen = true, x.f.Blocks()
		x.s.most = len(x.s.blocks) + few
		d := &drawer{d: dice(60 + few)}
		for range 150 {
			c := d.call(x.w)
			next := x.w.copied()
			wanted := next.plainly(c)
			was := x.state()
			got := really(t, x.f, c)
			switch {
			case got.e == api.ErrNoSpace && wanted.e == api.OK && !c.asks():
				full++
				x.unchanged(brief(c), was)
				if !same(got, answer{e: api.ErrNoSpace}) {
					t.Fatalf("%s: %s", brief(c), brief(got))
				}
			case same(got, wanted):
				done++
				x.w = next
				x.seen = union(x.seen, x.f.Blocks())
			default:
				t.Fatalf("%s: %s, want %s", brief(c), brief(got), brief(wanted))
			}
			if d.d.below(3) == 0 || got.e == api.ErrNoSpace {
				x.settle()
			}
		}
		x.held()
	}
	if full < 500 || done < 500 {
		t.Errorf("%d calls found no room, %d were done", full, done)
	}
}

// TestFullOfFiles: a space of so many blocks is filled with one file after another, and emptied again, for which it needs a few more: the room is there again (P15.18).
func TestFullOfFiles(t *testing.T) {
	x := begun(t, newRoom(t, 120))
	top := x.w.top()
	for range 3 {
		var there []string
		for i := 0; ; i++ {
			name := long(10) + string(rune('a'+i))
			if _, err := x.f.Create(x.f.Top(), name, api.Create{}, 6); fsops.Code(err) == api.ErrNoSpace {
				break
			}
			x.w.plainly(call{op: "create", h: top, a: name, now: 6})
			x.settle()
			there = append(there, name)
			h := x.at(name)
			if _, err := x.f.Write(h, 0, []byte(text(i, 2000)), 7); fsops.Code(err) == api.ErrNoSpace {
				break
			}
			x.w.plainly(call{op: "write", h: h, p: text(i, 2000), now: 7})
			x.settle()
		}
		x.held()
		if len(there) < 8 {
			t.Errorf("there is room for %d files", len(there))
		}
		slices.Reverse(there)
		x.s.most += 10
		for _, name := range there {
			x.must(call{op: "remove", h: top, a: name, now: 8})
			x.settle()
		}
		if n := len(x.s.blocks); n > 1 {
			t.Errorf("%d blocks of an empty tree", n)
		}
		x.s.most -= 10
	}
}

// TestForged: trees that no FS has made are not said anything of; all the same no call panics (rule 1).
func TestForged(t *testing.T) {
	d := dice(77)
	for range 150 {
		s := wide(t)
		f := opened(t, s, formatted(t, s, 5))
		x := &both{t: t, s: s, f: f, w: newPlain(5)}
		draw := &drawer{d: dice(d.below(9999))}
		for range 12 {
			x.do(draw.call(x.w))
		}
		for range 3 {
			key := []byte{"ipfgncdx"[d.below(8)]}
			if d.below(4) > 0 {
				key = append(key, 0, 0, 0, 0, 0, 0, 0, byte(d.below(6)))
			}
			for range d.below(4) {
				key = append(key, byte(d.below(3)))
			}
			want(t, "forge", fsops.Code(f.Forge(key, []byte(text(d.below(200), d.below(97))))), api.OK)
		}
		for range 60 {
			really(t, f, draw.call(x.w))
		}
		f.Blocks()
		f.Settle()
	}
}
