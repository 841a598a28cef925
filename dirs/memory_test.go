package dirs_test

import (
	"slices"
	"testing"

	"granary/api"
	"granary/btree"
	"granary/dirs"
)

// spoil writes over all of a list, its spare room too.
func spoil(l []api.Entry) {
	l = l[:cap(l)]
	for i := range l {
		l[i] = api.Entry{Name: "spoilt", Ino: 1, Cookie: 1}
	}
}

// TestAnswersAreNew: whoever writes over a list that was answered, its spare room too, changes neither the directory nor another answer (rule 3).
func TestAnswersAreNew(t *testing.T) {
	for _, many := range []int{0, 1, 3, 17, 40} {
		b, all := crowd(t, wide(), many)
		before := whole(b)
		each := dirs.Each(b, 1)
		for most := range many + 2 {
			one, _, _ := dirs.List(b, 1, 0, most)
			two, _, _ := dirs.List(b, 1, 0, most)
			spoil(one)
			told(t, "another answer", two, all[:min(most, many)]...)
			told(t, "a later answer", slices.Collect(dirs.Each(b, 1)), all...)
		}
		got := slices.Collect(each)
		spoil(got)
		told(t, "what is gone over again", slices.Collect(each), all...)
		if k := unlike(before, whole(b)); k != "" {
			t.Errorf("the key %q has something else", k)
		}
	}
}

// TestToldIsOld: what was told stays, whatever is done behind it (rule 3).
func TestToldIsOld(t *testing.T) {
	d := dice(3)
	x := begun(t, wide())
	x.do(call{kind: "Make", dir: 1})
	for range 200 {
		for range 5 {
			x.do(drawnCall(&d, []uint64{1}, 40))
		}
		l, _, _ := dirs.List(x.b, 1, 0, greatestInt)
		each := dirs.Each(x.b, 1)
		found, _ := dirs.Find(x.b, 1, "a")
		text := entryText(found)
		wanted := slices.Clone(x.a.now[1].list)
		for range 5 {
			x.do(drawnCall(&d, []uint64{1}, 40))
		}
		told(t, "an old List", l, wanted...)
		told(t, "an old Each", slices.Collect(each), wanted...)
		if now := entryText(found); now != text {
			t.Errorf("what Find told was %s, and is %s", text, now)
		}
	}
}

// TestStrangeTrees: a tree whose keys nobody has put so is not handed in; all the same no call panics on it, and each ends (rule 1).
func TestStrangeTrees(t *testing.T) {
	d := dice(4)
	for range 200 {
		s := wide()
		b := btree.Open(s, empty(t, s))
		for range 40 {
			key := []byte{one(&d, []byte("ncd")), 0, 0, 0, 0, 0, 0, 0, byte(d.below(2)), 0, 0, 0, 0, 0, 0, 0, byte(d.below(9)), 0}
			key = append(key[:9+d.below(10)], "ab"[:d.below(3)]...)
			b.Put(key, []byte("123456789012")[:d.below(13)])
		}
		for range 60 {
			really(b, drawnCall(&d, []uint64{0, 1}, 30))
		}
		want(t, "Why", b.Why(), api.OK)
	}
}
