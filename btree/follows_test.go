package btree_test

import (
	"fmt"
	"maps"
	"slices"
	"strings"
	"testing"

	"granary/api"
	"granary/btree"
)

// version is a root, and what its tree has.
type version struct {
	root int
	has  sheet
}

// giveUp gives back the blocks of a version that no other needs.
func giveUp(t *testing.T, s *room, v version, others []version) {
	t.Helper()
	var needed []int
	for _, o := range others {
		needed = union(needed, blocksOf(t, s, o.root, len(o.has)))
	}
	s.giveBack(minus(blocksOf(t, s, v.root, len(v.has)), needed))
}

// TestOlderRoots: drawn batches on any of several versions of one space, which end anyhow; all versions that were not given back have what they had (P11.10), and just their blocks are taken (P11.11).
func TestOlderRoots(t *testing.T) {
	dice := dice(10)
	for _, s := range append(spaces(t), spaces(t)...) {
		versions := []version{{empty(t, s), sheet{}}}
		for range 120 {
			from := versions[dice.below(len(versions))]
			x := begun(t, s, from.root, from.has)
			for range 1 + dice.below(60) {
				x.do(drawnStep(&dice, 65))
			}
			x.held()
			if x.l.why != api.OK || dice.below(5) == 0 {
				want(t, "Abort", x.b.Abort(), api.OK)
				x.nothingLeft()
			} else if x.b.Root() != from.root {
				versions = append(versions, version{x.b.Root(), x.l.now})
			}
			if len(versions) > 6 {
				i := dice.below(len(versions))
				gone := versions[i]
				versions = slices.Delete(versions, i, i+1)
				giveUp(t, s, gone, versions)
			}
			var needed []int
			for _, v := range versions {
				has(t, "an older root", s, v.root, v.has)
				needed = union(needed, blocksOf(t, s, v.root, len(v.has)))
			}
			told(t, "what is taken", s.taken(), needed...)
		}
	}
}

// TestRefused: a space that refuses the n-th call, for every n: the batch has the space's error from that call on, no tree has changed, and behind Abort just that is taken which was (P11.12).
func TestRefused(t *testing.T) {
	dice := dice(12)
	var script []step
	for range 70 {
		s := drawnStep(&dice, 60)
		if s.kind != "Abort" && (s.kind != "Put" || isKey(s.key) && len(s.value) <= api.MaxValue) {
			script = append(script, s)
		}
	}
	for i := range 40 {
		script = append(script, step{kind: "Drop", key: numbered("k", 2*i, 4)})
	}
	s := wide(t)
	root, now := forest(t, s, 60)
	for _, call := range []string{"Take", "Write", "Read", "Give"} {
		n := 1
		for ; refusedAt(t, s, root, now, script, call, n); n++ {
		}
		if n < 6 {
			t.Errorf("%s was called %d times", call, n-1)
		}
	}
}

// refusedAt makes the script while the space refuses the n-th call of that name; whether there were so many.
func refusedAt(t *testing.T, s *room, root int, now sheet, script []step, call string, n int) bool {
	t.Helper()
	x := begun(t, s, root, now)
	before := s.bytes()
	clear(s.refused)
	s.refuseNext(call, n)
	for _, step := range script {
		wanted, got := x.l.plainly(step), really(x.b, step)
		if s.refused[call] > 0 && x.l.why == api.OK {
			x.l.why, wanted = errRefused, nothing(step.kind)
		}
		if got != wanted || x.b.Why() != x.l.why {
			t.Fatalf("%s is refused the %d-th time: %+v: %.300s, error %d, want %.300s, error %d", call, n, step, got, x.b.Why(), wanted, x.l.why)
		}
	}
	s.refuseNext(call, 0)
	x.held()
	want(t, "Abort", x.b.Abort(), api.OK)
	x.nothingLeft()
	if !maps.Equal(s.bytes(), before) {
		t.Fatalf("%s is refused the %d-th time: the blocks have changed", call, n)
	}
	return s.refused[call] > 0
}

// TestFull: a space with few blocks, for every few: the space's error as soon as there is no block, and no tree has changed; behind Abort there is room again (P11.12).
func TestFull(t *testing.T) {
	for few := 1; few <= 40; few++ {
		s := newRoom(t, few)
		root := empty(t, s)
		x := begun(t, s, root, sheet{})
		for i := range 100 {
			key, value := numbered("k", i*37%100, 4), strings.Repeat("v", 90)
			x.b.Put([]byte(key), []byte(value))
			if x.b.Why() != api.OK {
				break
			}
			x.l.now[key] = value
			x.held()
		}
		if len(x.l.now) > 90 {
			if few < 30 {
				t.Errorf("%d keys of 90 bytes lie in %d blocks", len(x.l.now), few)
			}
			continue
		}
		x.l.why = api.ErrSpace
		x.held()
		want(t, "Abort", x.b.Abort(), api.OK)
		x.nothingLeft()
		if few > 1 {
			x.b.Put([]byte("k"), nil)
			want(t, "Why", x.b.Why(), api.OK)
		}
	}
}

// TestFullDrop: Drop and a shorter value need blocks, too, on an older tree: the space's error when there is none, and no tree has changed (P11.12).
func TestFullDrop(t *testing.T) {
	dice := dice(14)
	for spare := range 30 {
		for _, kind := range []string{"Drop", "Put"} {
			s := wide(t)
			root, now := forest(t, s, 60)
			s.most = len(s.taken()) + spare
			x := begun(t, s, root, now)
			for _, key := range dice.shuffled(now.keys()) {
				wanted, got := x.l.plainly(step{kind: kind, key: key}), really(x.b, step{kind: kind, key: key})
				if x.b.Why() != api.OK && x.l.why == api.OK {
					x.l.why, wanted = api.ErrSpace, nothing(kind)
				}
				if got != wanted {
					t.Fatalf("%s: %s, want %s", kind, got, wanted)
				}
			}
			if refused := x.l.why != api.OK; spare < 2 && !refused || spare == 29 && refused {
				t.Errorf("%s with %d blocks to spare: error %d", kind, spare, x.l.why)
			}
			x.held()
			want(t, "Abort", x.b.Abort(), api.OK)
			x.l.plainly(step{kind: "Abort"})
			x.nothingLeft()
		}
	}
}

// shape is how a tree of many keys is made: how its keys look, and how long its values are.
type shape struct {
	name  string
	many  int
	key   func(i int) string
	value int
}

// shapes are trees of the shortest keys and values, of the longest, and of both mixed.
func shapes() []shape {
	short := func(i int) string { return string([]byte{byte(i >> 8), byte(i)}) }
	return []shape{
		{"short", 5000, short, 0},
		{"short keys, long values", 2000, short, api.MaxValue},
		{"long keys that part at the end", 3000, func(i int) string { return numbered(strings.Repeat("k", 33), i, api.MaxKey) }, api.MaxValue},
		{"long keys without values", 3000, func(i int) string { return numbered(strings.Repeat("k", 33), i, api.MaxKey) }, 0},
		{"long keys that part at the beginning", 3000, func(i int) string { return short(i) + strings.Repeat("k", api.MaxKey-2) }, 9},
		{"keys of all lengths", 3000, func(i int) string { return short(i) + strings.Repeat("k", i*7%39) }, 96},
	}
}

// orders are a rising list of keys, the same falling, and in a drawn order.
func orders(dice *dice, keys []string) [][]string {
	falling := slices.Clone(keys)
	slices.Reverse(falling)
	return [][]string{keys, falling, dice.shuffled(keys)}
}

// TestGreatTrees: trees of some thousands of keys, put in all orders and dropped in others, in some batches; each answer as it should be, and few blocks are read (P11.3 to P11.8, P11.13).
func TestGreatTrees(t *testing.T) {
	for _, shape := range shapes() {
		t.Run(shape.name, func(t *testing.T) {
			t.Parallel()
			dice := dice(13)
			var keys []string
			for i := range shape.many {
				keys = append(keys, shape.key(i))
			}
			slices.Sort(keys)
			all := orders(&dice, keys)
			for i, puts := range all {
				s := spaces(t)[i%2]
				root, now := filled(t, s, puts, shape.value)
				looked(t, s, root, keys, now)
				emptied(t, s, root, now, all[(i+1)%len(all)])
			}
		})
	}
}

// filled is a tree with these keys, put in this order; each has a value of its own, of so many bytes.
func filled(t *testing.T, s *room, keys []string, size int) (int, sheet) {
	t.Helper()
	root, now := empty(t, s), sheet{}
	for batch := range slices.Chunk(keys, len(keys)/3+1) {
		x := begun(t, s, root, now)
		for i, key := range batch {
			value := strings.Repeat(fmt.Sprint(i), size)[:size]
			x.do(step{kind: "Put", key: key, value: value})
			x.do(step{kind: "Get", key: batch[i/2]})
		}
		x.held()
		s.giveBack(x.b.Gone())
		root, now = x.b.Root(), x.l.now
	}
	return root, now
}

// looked holds each answer of a tree against the sheet.
func looked(t *testing.T, s *room, root int, keys []string, now sheet) {
	t.Helper()
	b := opened(t, s, root)
	if n := b.Len(); n != len(keys) {
		t.Fatalf("Len: %d, want %d", n, len(keys))
	}
	told(t, "Range", texts(b.Range(nil, nil, len(keys))), now.texts()...)
	for i, key := range keys {
		clear(s.calls)
		v, is := b.Get([]byte(key))
		if !is || string(v) != now[key] {
			t.Fatalf("Get(%q): %q %t", key, v, is)
		}
		if n := s.calls["Read"]; n > 16 {
			t.Fatalf("Get(%q) has read %d blocks", key, n)
		}
		other := key[:len(key)-1] + "\x07"
		wanted, there := now[other]
		if v, is := b.Get([]byte(other)); is != there || string(v) != wanted {
			t.Fatalf("Get(%q): %q %t", other, v, is)
		}
		beside(t, b, keys, i)
	}
	want(t, "Why", b.Why(), api.OK)
}

// beside: Next, Last and Range from the key i of a tree lead to its neighbours.
func beside(t *testing.T, b *btree.Batch, keys []string, i int) {
	t.Helper()
	next, some := b.Next([]byte(keys[i]))
	if some != (i+1 < len(keys)) || some && string(next.Key) != keys[i+1] {
		t.Fatalf("Next(%q): %q %t", keys[i], next.Key, some)
	}
	last, some := b.Last([]byte(keys[i]))
	if some != (i > 0) || some && string(last.Key) != keys[i-1] {
		t.Fatalf("Last(%q): %q %t", keys[i], last.Key, some)
	}
	l := b.Range([]byte(keys[i]), nil, 3)
	if len(l) != min(3, len(keys)-i) || string(l[0].Key) != keys[i] || string(l[len(l)-1].Key) != keys[i+len(l)-1] {
		t.Fatalf("Range(%q, none, 3): %q", keys[i], texts(l))
	}
}

// emptied drops the keys in this order, some in each batch, down to none.
func emptied(t *testing.T, s *room, root int, now sheet, keys []string) {
	t.Helper()
	for batch := range slices.Chunk(keys, len(keys)/3+1) {
		x := begun(t, s, root, now)
		for i, key := range batch {
			x.do(step{kind: "Drop", key: key})
			x.do(step{kind: "Get", key: batch[i/2]})
			x.do(step{kind: "Get", key: batch[(i+len(batch))/2]})
		}
		x.held()
		s.giveBack(x.b.Gone())
		root, now = x.b.Root(), x.l.now
	}
	told(t, "the blocks of a tree that was emptied", s.taken(), root)
	has(t, "a tree that was emptied", s, root, sheet{})
}
