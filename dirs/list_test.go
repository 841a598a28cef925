package dirs_test

import (
	"iter"
	"slices"
	"strings"
	"testing"

	"granary/api"
	"granary/btree"
	"granary/dirs"
)

// mosts is bounds of a list of a directory with so many entries.
func mosts(many int) []int {
	return []int{leastInt, -1, 0, 1, 2, many - 1, many, many + 1, 15, 16, 17, 32, 1 << 40, greatestInt - 1, greatestInt}
}

// afters is cookies to list from: none, each that was given and those around it, and the edges.
func afters(f folder) []uint64 {
	out := []uint64{255, 256, 1 << 32, 1 << 63, greatest - 1, greatest}
	for cookie := range f.last + 4 {
		out = append(out, cookie)
	}
	return out
}

// TestList: after and most at every place, of directories with none, few and some pages of entries, and with gaps, beside directories with the numbers just below and above (P13.6).
func TestList(t *testing.T) {
	for _, dir := range []uint64{1, 256, greatest - 1} {
		for _, many := range []int{0, 1, 2, 15, 16, 17, 33} {
			for _, gap := range []int{1, 2, 3} {
				x := begun(t, wide())
				for _, at := range []uint64{dir - 1, dir, dir + 1} {
					x.do(call{kind: "Make", dir: at})
				}
				for i := range many {
					for _, at := range []uint64{dir + 1, dir, dir - 1} {
						x.do(call{kind: "Add", dir: at, name: numbered("x", i*7%many, 3), ino: at ^ uint64(i)})
					}
				}
				for i := 0; i < many; i += gap + 1 {
					x.do(call{kind: "Remove", dir: dir, name: numbered("x", i, 3)})
				}
				f := x.a.now[dir]
				for _, after := range afters(f) {
					for _, most := range mosts(len(f.list)) {
						x.do(call{kind: "List", dir: dir, after: after, most: most})
					}
				}
				x.held()
			}
		}
	}
}

// TestListNone: none, false and ErrNone of a directory that is not there, whatever is asked, also beside others (P13.6).
func TestListNone(t *testing.T) {
	x := begun(t, wide())
	for range 2 {
		for _, after := range numbers() {
			for _, most := range mosts(3) {
				for _, dir := range []uint64{0, 2, 4, greatest} {
					x.do(call{kind: "List", dir: dir, after: after, most: most})
				}
			}
		}
		for _, dir := range []uint64{1, 3, greatest - 1} {
			x.do(call{kind: "Make", dir: dir}, call{kind: "Add", dir: dir, name: "a", ino: 7}, call{kind: "Add", dir: dir, name: "b", ino: 8})
		}
	}
}

// crowd is a batch whose directory 1 has so many entries of long names; the directories 0 and 2 have one each.
func crowd(t *testing.T, s *room, many int) (*btree.Batch, []api.Entry) {
	t.Helper()
	b := btree.Open(s, empty(t, s))
	var out []api.Entry
	for dir := range uint64(3) {
		want(t, "Make", dirs.Make(b, dir), api.OK)
	}
	dirs.Add(b, 0, "below", 1)
	dirs.Add(b, 2, "above", 2)
	for i := range many {
		name := numbered(strings.Repeat("n", 20), i*7919%many, 6)
		cookie, e := dirs.Add(b, 1, name, uint64(3*i))
		if cookie != uint64(3+i) || e != api.OK {
			t.Fatalf("Add: %d, error %d", cookie, e)
		}
		out = append(out, api.Entry{Name: name, Ino: uint64(3 * i), Cookie: cookie})
	}
	return b, out
}

// TestCrowd: a directory of some thousands of entries, in a tree of several levels: found, listed, counted, taken out (P13.3 to P13.7).
func TestCrowd(t *testing.T) {
	t.Parallel()
	s := wide()
	b, all := crowd(t, s, 3000)
	b = btree.Open(s, b.Root())
	told(t, "Each", slices.Collect(dirs.Each(b, 1)), all...)
	for _, at := range []int{0, 1, 15, 16, 17, 1500, 2983, 2984, 2999, 3000} {
		for _, most := range []int{0, 1, 16, 17, 100, 2999, 3000, 3001, greatestInt} {
			l, end, e := dirs.List(b, 1, uint64(2+at), most)
			upTo := at + min(most, len(all)-at)
			told(t, "List", l, all[at:upTo]...)
			if end != (upTo == len(all)) || e != api.OK {
				t.Fatalf("List behind %d, %d at most: %t, error %d", at, most, end, e)
			}
		}
	}
	for i, x := range all {
		if got, e := dirs.Find(b, 1, x.Name); got != x || e != api.OK {
			t.Fatalf("Find: %+v, error %d, want %+v", got, e, x)
		}
		if i%3 == 0 {
			continue
		}
		if got, e := dirs.Remove(b, 1, x.Name); got != x || e != api.OK {
			t.Fatalf("Remove: %+v, error %d, want %+v", got, e, x)
		}
	}
	if n, e := dirs.Count(b, 1); n != 1000 || e != api.OK {
		t.Errorf("Count: %d, error %d", n, e)
	}
	want(t, "Erase", dirs.Erase(b, 1), api.ErrNotEmpty)
	for x := range dirs.Each(b, 1) {
		dirs.Remove(b, 1, x.Name)
	}
	want(t, "Erase", dirs.Erase(b, 1), api.OK)
	told(t, "the one below", slices.Collect(dirs.Each(b, 0)), api.Entry{Name: "below", Ino: 1, Cookie: 3})
	told(t, "the one above", slices.Collect(dirs.Each(b, 2)), api.Entry{Name: "above", Ino: 2, Cookie: 3})
}

// TestEachNone: none of a directory that is not there, of one without entries, of a nil batch, and of one with an error; it is never nil (P13.6).
func TestEachNone(t *testing.T) {
	b, _ := crowd(t, wide(), 20)
	want(t, "Make", dirs.Make(b, 8), api.OK)
	for _, dir := range []uint64{3, 7, 8, 9, greatest} {
		none(t, dirs.Each(b, dir))
		none(t, dirs.Each(nil, dir))
	}
	none(t, dirs.Each(nil, 1))
	all := dirs.Each(b, 1)
	b.Put(nil, nil)
	none(t, dirs.Each(b, 1))
	if n := len(slices.Collect(all)); n != 20 {
		t.Errorf("behind the batch's error %d entries are gone over", n)
	}
}

// none: what is gone over is nothing, twice.
func none(t *testing.T, each iter.Seq[api.Entry]) {
	t.Helper()
	if each == nil {
		t.Fatal("Each is nil")
	}
	for range 2 {
		for x := range each {
			t.Errorf("Each tells %+v", x)
		}
	}
}

// TestEachLeft: it may be left at every place, and gone over again (P13.6).
func TestEachLeft(t *testing.T) {
	for _, many := range []int{1, 2, 16, 17, 40} {
		b, all := crowd(t, wide(), many)
		each := dirs.Each(b, 1)
		for at := range many {
			var got []api.Entry
			for x := range each {
				got = append(got, x)
				if len(got) > at {
					break
				}
			}
			told(t, "what was gone over", got, all[:at+1]...)
			told(t, "what is gone over again", slices.Collect(each), all...)
		}
	}
}

// TestEachNested: one within another, and the same within itself (P13.6).
func TestEachNested(t *testing.T) {
	b, all := crowd(t, wide(), 20)
	each := dirs.Each(b, 1)
	i := 0
	for x := range each {
		told(t, "within itself", slices.Collect(each), all...)
		told(t, "within another", slices.Collect(dirs.Each(b, 1)), all...)
		j := 0
		for y := range each {
			if y != all[j] || x != all[i] {
				t.Fatalf("%+v within %+v, want %+v within %+v", y, x, all[j], all[i])
			}
			if j++; j > i {
				break
			}
		}
		i++
	}
	if i != len(all) {
		t.Errorf("%d entries were gone over", i)
	}
}

// TestEachMeanwhile: entries are added, set and removed, the directory erased, made again, the batch aborted or hurt while it is gone over: what is gone over is as it was when Each was called (P13.6).
func TestEachMeanwhile(t *testing.T) {
	deeds := map[string]func(b *btree.Batch, x api.Entry){
		"Add": func(b *btree.Batch, x api.Entry) { dirs.Add(b, 1, "new"+x.Name[8:], 1) },
		"Set": func(b *btree.Batch, x api.Entry) {
			for y := range dirs.Each(b, 1) {
				dirs.Set(b, 1, y.Name, y.Ino+x.Cookie)
			}
		},
		"Remove":    func(b *btree.Batch, x api.Entry) { dirs.Remove(b, 1, x.Name) },
		"RemoveAll": removeAll,
		"Erase": func(b *btree.Batch, x api.Entry) {
			removeAll(b, x)
			dirs.Erase(b, 1)
		},
		"Make": func(b *btree.Batch, x api.Entry) {
			removeAll(b, x)
			dirs.Erase(b, 1)
			dirs.Make(b, 1)
			dirs.Add(b, 1, "other", x.Ino)
		},
		"Abort": func(b *btree.Batch, x api.Entry) { b.Abort() },
		"Put":   func(b *btree.Batch, x api.Entry) { b.Put(nil, nil) },
	}
	for name, deed := range deeds {
		for _, many := range []int{1, 17, 50} {
			b, all := crowd(t, wide(), many)
			each := dirs.Each(b, 1)
			var got []api.Entry
			for x := range each {
				deed(b, x)
				got = append(got, x)
			}
			told(t, name, got, all...)
			told(t, name+", again", slices.Collect(each), all...)
		}
	}
}

// removeAll takes all entries out.
func removeAll(b *btree.Batch, _ api.Entry) {
	for x := range dirs.Each(b, 1) {
		dirs.Remove(b, 1, x.Name)
	}
}

// TestEachLater: it is as it was at the call, also where it is gone over only when all has changed (P13.6).
func TestEachLater(t *testing.T) {
	b, all := crowd(t, wide(), 40)
	var kept []iter.Seq[api.Entry]
	for _, x := range all {
		kept = append(kept, dirs.Each(b, 1))
		if _, e := dirs.Remove(b, 1, x.Name); e != api.OK {
			t.Fatalf("Remove: error %d", e)
		}
	}
	want(t, "Erase", dirs.Erase(b, 1), api.OK)
	for i, each := range kept {
		told(t, "Each", slices.Collect(each), all[i:]...)
	}
}

// TestFewReads: what is asked of a great directory reads the blocks on the way and those of its answer, not all of them (it is no promise, but keeps walks cheap).
func TestFewReads(t *testing.T) {
	s := wide()
	b, all := crowd(t, s, 1000)
	for _, x := range all[:900] {
		for _, ask := range []func(){
			func() { dirs.List(b, 1, x.Cookie, 10) },
			func() { dirs.List(b, 1, x.Cookie, -1) },
			func() { dirs.Find(b, 1, x.Name) },
			func() { dirs.Erase(b, 1) },
		} {
			before := s.calls["Read"]
			ask()
			if n := s.calls["Read"] - before; n > 25 {
				t.Fatalf("%d blocks were read", n)
			}
		}
	}
}
