package btree_test

import (
	"fmt"
	"maps"
	"slices"
	"strings"
	"testing"

	"granary/api"
	"granary/btree"
)

// sheet is a tree in the chapter's words: what each key has.
type sheet map[string]string

// keys is the keys, rising. The texts' order is that of their bytes.
func (s sheet) keys() []string { return slices.Sorted(maps.Keys(s)) }

// texts is the pairs, rising.
func (s sheet) texts() []string { return s.span("", "", greatestInt) }

// span is P11.5.
func (s sheet) span(from, to string, most int) []string {
	var out []string
	for _, k := range s.keys() {
		if k >= from && (to == "" || k < to) && len(out) < most {
			out = append(out, k+"="+s[k])
		}
	}
	return out
}

// next is P11.5.
func (s sheet) next(key string) (string, bool) {
	for _, k := range s.keys() {
		if k > key {
			return k + "=" + s[k], true
		}
	}
	return "=", false
}

// last is P11.5.
func (s sheet) last(end string) (string, bool) {
	for _, k := range slices.Backward(s.keys()) {
		if end == "" || k < end {
			return k + "=" + s[k], true
		}
	}
	return "=", false
}

// diff is P11.9, a text for each change.
func (s sheet) diff(o sheet) []string {
	both := maps.Clone(s)
	maps.Copy(both, o)
	var out []string
	for _, k := range both.keys() {
		was, had := s[k]
		now, have := o[k]
		if had != have || was != now {
			out = append(out, changeText(k, was, now, had, have))
		}
	}
	return out
}

// changeText is a change in one text.
func changeText(key, was, now string, had, have bool) string {
	return fmt.Sprintf("%q %q %t %q %t", key, was, had, now, have)
}

// changeTexts is changes, a text each.
func changeTexts(l []api.Change) []string {
	var out []string
	for _, x := range l {
		out = append(out, changeText(string(x.Key), string(x.Was), string(x.Now), x.Had, x.Have))
	}
	return out
}

// ledger is a batch in the chapter's words: what the first tree has, what the tree has now, and the error.
type ledger struct {
	first, now sheet
	why        api.Errno
}

// newLedger is a batch on such a tree.
func newLedger(first sheet) *ledger { return &ledger{first: first, now: maps.Clone(first)} }

// step is a call of a batch: which, and with what.
type step struct {
	kind       string
	key, value string // of Range from and to
	most       int
}

// isKey: the text can be a key.
func isKey(s string) bool { return len(s) > 0 && len(s) <= api.MaxKey }

// put is P11.4.
func (l *ledger) put(key, value string) {
	switch {
	case key == "":
		l.why = api.ErrArg
	case len(key) > api.MaxKey || len(value) > api.MaxValue:
		l.why = api.ErrLong
	default:
		l.now[key] = value
	}
}

// plainly is the step on a ledger, and what it answers.
func (l *ledger) plainly(s step) string {
	if s.kind == "Abort" {
		*l = *newLedger(l.first)
		return fmt.Sprint(api.OK)
	}
	if l.why != api.OK {
		return nothing(s.kind)
	}
	switch s.kind {
	case "Get":
		v, is := l.now[s.key]
		return fmt.Sprintf("%q %t", v, is)
	case "Put":
		l.put(s.key, s.value)
		return ""
	case "Drop":
		_, is := l.now[s.key]
		delete(l.now, s.key)
		return fmt.Sprint(is)
	case "Range":
		return fmt.Sprintf("%q", l.now.span(s.key, s.value, s.most))
	case "Next":
		p, is := l.now.next(s.key)
		return fmt.Sprintf("%q %t", p, is)
	case "Last":
		p, is := l.now.last(s.key)
		return fmt.Sprintf("%q %t", p, is)
	case "Len":
		return fmt.Sprint(len(l.now))
	}
	panic(s.kind)
}

// nothing is what a call answers behind an error.
func nothing(kind string) string {
	switch kind {
	case "Get":
		return `"" false`
	case "Drop":
		return "false"
	case "Range":
		return "[]"
	case "Next", "Last":
		return `"=" false`
	case "Len":
		return "0"
	}
	return ""
}

// really is the step on a batch, and what it answers.
func really(b *btree.Batch, s step) string {
	key := []byte(s.key)
	switch s.kind {
	case "Abort":
		return fmt.Sprint(b.Abort())
	case "Get":
		v, is := b.Get(key)
		return fmt.Sprintf("%q %t", v, is)
	case "Put":
		b.Put(key, []byte(s.value))
		return ""
	case "Drop":
		return fmt.Sprint(b.Drop(key))
	case "Range":
		return fmt.Sprintf("%q", texts(b.Range(key, []byte(s.value), s.most)))
	case "Next":
		p, is := b.Next(key)
		return fmt.Sprintf("%q %t", text(p), is)
	case "Last":
		p, is := b.Last(key)
		return fmt.Sprintf("%q %t", text(p), is)
	case "Len":
		return fmt.Sprint(b.Len())
	}
	panic(s.kind)
}

// both is a batch, and a ledger beside it.
type both struct {
	t     *testing.T
	s     *room
	b     *btree.Batch
	l     *ledger
	root  int   // the first
	taken []int // when it was opened
}

// begun is both, on a tree that has what the sheet has.
func begun(t *testing.T, s *room, root int, has sheet) both {
	t.Helper()
	return both{t, s, opened(t, s, root), newLedger(has), root, s.taken()}
}

// do makes the step on both, and holds them against each other.
func (x both) do(s step) {
	x.t.Helper()
	wanted, got := x.l.plainly(s), really(x.b, s)
	if got != wanted || x.b.Why() != x.l.why {
		x.t.Fatalf("%+v: %.300s, error %d, want %.300s, error %d", s, got, x.b.Why(), wanted, x.l.why)
	}
}

// held holds what the batch tells of its blocks against P11.6, P11.8 and P11.11, and its tree against the ledger.
func (x both) held() {
	x.t.Helper()
	want(x.t, "Why", x.b.Why(), x.l.why)
	if x.l.why != api.OK {
		x.nothingLeft()
		return
	}
	first := blocksOf(x.t, x.s, x.root, len(x.l.first))
	now := blocksOf(x.t, x.s, x.b.Root(), len(x.l.now))
	told(x.t, "Gone", x.b.Gone(), minus(first, now)...)
	told(x.t, "Fresh", x.b.Fresh(), minus(now, first)...)
	told(x.t, "what is taken", x.s.taken(), union(x.taken, x.b.Fresh())...)
	has(x.t, "the tree", x.s, x.b.Root(), x.l.now)
	has(x.t, "the first tree", x.s, x.root, x.l.first)
	if x.t.Failed() {
		x.t.FailNow()
	}
}

// nothingLeft: the batch is back at its first root, and has taken nothing (P11.6, P11.7).
func (x both) nothingLeft() {
	x.t.Helper()
	if x.b.Root() != x.root {
		x.t.Errorf("Root: %d, want %d", x.b.Root(), x.root)
	}
	told(x.t, "Gone", x.b.Gone())
	told(x.t, "Fresh", x.b.Fresh())
	told(x.t, "what is taken", x.s.taken(), x.taken...)
	has(x.t, "the first tree", x.s, x.root, x.l.first)
	if x.t.Failed() {
		x.t.FailNow()
	}
}

// drawnKey is a key of a few bytes, often of one that is there; now and then a long one, or none.
func drawnKey(dice *dice) string {
	const letters = "\x00\x01abz\xff"
	n := 1 + dice.below(4)
	switch dice.below(40) {
	case 0:
		n = 0
	case 1:
		n = api.MaxKey + 1
	case 2, 3, 4, 5, 6, 7:
		n = api.MaxKey
	}
	out := ""
	if n > 4 {
		out = strings.Repeat("p", n-2)
	}
	for len(out) < n {
		i := dice.below(len(letters))
		out += letters[i : i+1]
	}
	return out
}

// drawnValue is a value of any length, often of the greatest.
func drawnValue(dice *dice) string {
	n := dice.below(api.MaxValue + 1)
	switch dice.below(8) {
	case 0:
		n = 0
	case 1, 2, 3:
		n = api.MaxValue
	}
	return strings.Repeat(string(rune('A'+dice.below(20))), n)
}

// drawnStep is a step that makes no error of its own, but rarely.
func drawnStep(dice *dice, puts int) step {
	s := step{key: drawnKey(dice)}
	if dice.below(100) < puts {
		s.kind, s.value = "Put", drawnValue(dice)
		if !isKey(s.key) && dice.below(10) > 0 {
			s.key = "k"
		}
		if dice.below(3000) == 0 {
			s.value += strings.Repeat("x", api.MaxValue+1)
		}
		return s
	}
	kinds := []string{"Drop", "Drop", "Drop", "Drop", "Get", "Range", "Next", "Last", "Len"}
	s.kind = kinds[dice.below(len(kinds))]
	if s.kind == "Range" {
		s.value, s.most = drawnKey(dice), dice.below(30)-2
		if dice.below(4) == 0 {
			s.value, s.most = "", greatestInt
		}
	}
	if dice.below(2000) == 0 {
		s.kind = "Abort"
	}
	return s
}

// TestDrawnBatches: long scripts of all calls in one batch behind the other, on a tree that grows and shrinks; each answer, and behind each batch its blocks (P11.3 to P11.8, P11.11).
func TestDrawnBatches(t *testing.T) {
	dice := dice(11)
	for _, s := range append(spaces(t), spaces(t)...) {
		root, now := empty(t, s), sheet{}
		for round := range 60 {
			x := begun(t, s, root, now)
			for range 1 + dice.below(150) {
				x.do(drawnStep(&dice, 70-round%6*12))
			}
			x.held()
			if x.l.why != api.OK || dice.below(6) == 0 {
				want(t, "Abort", x.b.Abort(), api.OK)
				x.nothingLeft()
				continue
			}
			s.giveBack(x.b.Gone())
			root, now = x.b.Root(), x.l.now
			told(t, "what is taken when Gone is given back", s.taken(), blocksOf(t, s, root, len(now))...)
		}
	}
}

// TestShortBatches: all lists of four of some steps, on an empty tree, on a leaf that is nearly full, and on a tree of two levels (P11.3 to P11.8).
func TestShortBatches(t *testing.T) {
	long := strings.Repeat("v", api.MaxValue)
	steps := []step{
		{kind: "Put", key: "a", value: "1"}, {kind: "Put", key: "b", value: long}, {kind: "Put", key: "b"},
		{kind: "Put", key: "", value: "1"}, {kind: "Drop", key: "a"}, {kind: "Drop", key: "b"}, {kind: "Drop", key: "c"},
		{kind: "Get", key: "b"}, {kind: "Range", key: "b", most: 2}, {kind: "Next", key: "a"}, {kind: "Last", key: "c"},
		{kind: "Len"}, {kind: "Abort"},
	}
	trees := []sheet{
		{}, {"a": "1", "c": long, "d": long, "e": long}, {"a": long, "b": long, "c": long, "d": long, "e": long, "f": long},
	}
	for _, tree := range trees {
		s := wide(t)
		root := planted(t, s, tree.texts()...)
		for i := range len(steps) * len(steps) * len(steps) * len(steps) {
			x := begun(t, s, root, tree)
			for range 4 {
				x.do(steps[i%len(steps)])
				i /= len(steps)
			}
			x.held()
			want(t, "Abort", x.b.Abort(), api.OK)
		}
	}
}
