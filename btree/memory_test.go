package btree_test

import (
	"bytes"
	"maps"
	"slices"
	"strings"
	"testing"

	"granary/api"
	"granary/btree"
)

// roomy is bytes with spare room behind them.
func roomy(s string) []byte {
	whole := []byte(s + "what stands behind it")
	return whole[:len(s)]
}

// unchanged: the bytes and what stands behind them are as roomy made them.
func unchanged(t *testing.T, name string, p []byte, s string) {
	t.Helper()
	if got := string(p[:len(s)+21]); got != s+"what stands behind it" {
		t.Errorf("%s has changed what was handed in: %q", name, got)
	}
}

// TestHandedIn: bytes that are handed in are not changed, their spare room neither, and not kept (rule 3).
func TestHandedIn(t *testing.T) {
	for _, s := range spaces(t) {
		root, now := forest(t, s, 60)
		x := begun(t, s, root, now)
		for _, key := range append(asked(), now.keys()...) {
			k, v := roomy(key), roomy(strings.Repeat("w", len(key)%90))
			value := string(v)
			x.b.Get(k)
			x.b.Drop(k)
			x.b.Next(k)
			x.b.Last(k)
			x.b.Range(k, v, 3)
			x.b.Range(v, k, 3)
			delete(x.l.now, key)
			if isKey(key) {
				x.b.Put(k, v)
				x.l.now[key] = value
			}
			unchanged(t, "a call", k, key)
			unchanged(t, "a call", v, value)
			spoil(k)
			spoil(v)
		}
		x.held()
		for _, key := range []string{"", strings.Repeat("k", 50)} {
			k, v := roomy(key), roomy("v")
			x.b.Put(k, v)
			unchanged(t, "Put with an error", k, key)
			unchanged(t, "Put with an error", v, "v")
			want(t, "Abort", x.b.Abort(), api.OK)
		}
	}
}

// TestAnswersAreNew: whoever writes over an answer, its spare room too, changes neither the tree nor another answer (rule 3).
func TestAnswersAreNew(t *testing.T) {
	for _, s := range spaces(t) {
		root, now := forest(t, s, 60)
		for _, changed := range []bool{false, true} {
			x := begun(t, s, root, now)
			if changed {
				x.do(step{kind: "Put", key: "k001", value: "new"})
				x.do(step{kind: "Drop", key: "k030"})
			}
			s.stays("what was written over answers", func() {
				for _, key := range x.l.now.keys() {
					v, _ := x.b.Get([]byte(key))
					next, _ := x.b.Next([]byte(key))
					last, _ := x.b.Last([]byte(key))
					for _, p := range [][]byte{v, next.Key, next.Value, last.Key, last.Value} {
						spoil(p)
					}
				}
				spoilPairs(t, x.b.Range(nil, nil, greatestInt))
			})
			x.held()
			want(t, "Abort", x.b.Abort(), api.OK)
		}
	}
}

// spoilPairs writes over the lists of an answer, one by one: the others stay.
func spoilPairs(t *testing.T, l []api.Pair) {
	t.Helper()
	var lists [][]byte
	for _, p := range l {
		lists = append(lists, p.Key, p.Value)
	}
	apart(t, lists)
}

// apart: no two of the lists share memory.
func apart(t *testing.T, lists [][]byte) {
	t.Helper()
	var kept [][]byte
	for _, l := range lists {
		kept = append(kept, bytes.Clone(l))
	}
	for i, l := range lists {
		if !bytes.Equal(l, kept[i]) {
			t.Fatalf("two lists of an answer share memory")
		}
		spoil(l)
	}
}

// TestDiffsAnswersAreNew: those of Diff, too (rule 3).
func TestDiffsAnswersAreNew(t *testing.T) {
	for _, s := range spaces(t) {
		root, now := forest(t, s, 60)
		x := begun(t, s, root, now)
		for i, key := range now.keys() {
			switch i % 3 {
			case 0:
				x.do(step{kind: "Drop", key: key})
			case 1:
				x.do(step{kind: "Put", key: key + "n", value: "new"})
			default:
				x.do(step{kind: "Put", key: key, value: "other"})
			}
		}
		l, _ := btree.Diff(s, root, x.b.Root())
		again, _ := btree.Diff(s, root, x.b.Root())
		var lists [][]byte
		for _, c := range l {
			lists = append(lists, c.Key, c.Was, c.Now)
		}
		s.stays("what was written over Diff's answer", func() { apart(t, lists) })
		told(t, "another answer", changeTexts(again), now.diff(x.l.now)...)
		x.held()
	}
}

// TestListsOfBlocksAreNew: those of Gone, Fresh and Blocks (rule 3).
func TestListsOfBlocksAreNew(t *testing.T) {
	s := wide(t)
	root, now := forest(t, s, 60)
	x := begun(t, s, root, now)
	for _, key := range now.keys()[:30] {
		x.do(step{kind: "Put", key: key, value: "other"})
	}
	for _, ask := range []func() []int{x.b.Gone, x.b.Fresh, func() []int { return blocksOf(t, s, root, len(now)) }} {
		a, b := ask(), ask()
		kept := slices.Clone(a)
		for i := range b[:cap(b)] {
			b[:cap(b)][i] = -1
		}
		told(t, "an older answer", a, kept...)
		told(t, "a later answer", ask(), kept...)
	}
	x.held()
}

// TestToldIsOld: what was told stays, whatever is done behind it (rule 3).
func TestToldIsOld(t *testing.T) {
	dice := dice(3)
	s := strange(t)
	root, now := forest(t, s, 60)
	x := begun(t, s, root, now)
	for range 100 {
		all, gone, fresh := x.b.Range(nil, nil, greatestInt), x.b.Gone(), x.b.Fresh()
		a, b, c := texts(all), slices.Clone(gone), slices.Clone(fresh)
		wanted := maps.Clone(x.l.now)
		for range 5 {
			x.do(drawnStep(&dice, 60))
		}
		if x.l.why != api.OK {
			x.do(step{kind: "Abort"})
		}
		told(t, "an old Range", texts(all), a...)
		told(t, "an old Range", texts(all), wanted.texts()...)
		told(t, "an old Gone", gone, b...)
		told(t, "an old Fresh", fresh, c...)
	}
}

// TestSameScriptSameCalls: what a batch answers and what it does to its space hangs on its calls alone (rule 4).
func TestSameScriptSameCalls(t *testing.T) {
	var wanted string
	for range 5 {
		dice := dice(4)
		s := strange(t)
		root, now := forest(t, s, 100)
		x := begun(t, s, root, now)
		for range 400 {
			x.do(drawnStep(&dice, 45))
			if x.l.why != api.OK {
				x.do(step{kind: "Abort"})
			}
		}
		got := strings.Join([]string{string(joined(s.bytes())), texts(x.b.Range(nil, nil, 1))[0]}, " ")
		if wanted == "" {
			wanted = got
		}
		if got != wanted {
			t.Fatalf("the same calls, and other blocks")
		}
	}
}

// joined is all blocks behind one another.
func joined(blocks map[int]string) []byte {
	var out []byte
	for _, b := range slices.Sorted(maps.Keys(blocks)) {
		out = append(out, blocks[b]...)
	}
	return out
}
