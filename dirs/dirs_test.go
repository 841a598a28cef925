package dirs_test

import (
	"strings"
	"testing"

	"granary/api"
	"granary/btree"
	"granary/dirs"
)

// TestExamples: those of the chapter.
func TestExamples(t *testing.T) {
	b := fresh(t)
	want(t, "Make", dirs.Make(b, 1), api.OK)
	for _, c := range []struct {
		c      call
		answer string
	}{
		{call{kind: "Add", dir: 1, name: "a", ino: 7}, "3, error 0"},
		{call{kind: "Add", dir: 1, name: "b", ino: 8}, "4, error 0"},
		{call{kind: "Remove", dir: 1, name: "a"}, `"a" 7 3, error 0`},
		{call{kind: "Add", dir: 1, name: "a", ino: 9}, "5, error 0"},
		{call{kind: "List", dir: 1, after: 3, most: 9}, `["b" 8 4; "a" 9 5] true, error 0`},
		{call{kind: "Add", dir: 1, name: "..", ino: 7}, "0, error 130"},
		{call{kind: "Add", dir: 1, name: strings.Repeat("n", 29), ino: 7}, "0, error 131"},
		{call{kind: "Add", dir: 2, name: "a", ino: 7}, "0, error 7"},
		{call{kind: "Add", dir: 1, name: "b", ino: 7}, "0, error 8"},
		{call{kind: "Erase", dir: 1}, "error 132"},
	} {
		if got := really(b, c.c); got != c.answer {
			t.Errorf("%+v: %s, want %s", c.c, got, c.answer)
		}
	}
}

// TestCheck: the names that may not be, and which error is told first (P13.1).
func TestCheck(t *testing.T) {
	long := strings.Repeat("n", api.MaxName)
	for name, e := range map[string]api.Errno{
		"": api.ErrName, ".": api.ErrName, "..": api.ErrName, "...": api.OK, "....": api.OK, ".a": api.OK, "a.": api.OK, "..a": api.OK, " ": api.OK,
		"/": api.ErrName, "\x00": api.ErrName, "\x80": api.OK, "\xff": api.OK, "\\": api.OK, "\n": api.OK,
		long: api.OK, long[1:]: api.OK, long + "n": api.ErrNameLong, long + "nn": api.ErrNameLong, long + "/": api.ErrName, "\x00" + long: api.ErrName,
		strings.Repeat(".", 28): api.OK, strings.Repeat(".", 29): api.ErrNameLong, strings.Repeat("\xff", 28): api.OK, strings.Repeat("ä", 14): api.OK,
		strings.Repeat("ä", 14) + "a": api.ErrNameLong, strings.Repeat("n", 100000): api.ErrNameLong, strings.Repeat("n", 100000) + "/": api.ErrName,
	} {
		if got := dirs.Check(name); got != e {
			t.Errorf("Check(%.60q): %d, want %d", name, got, e)
		}
	}
	for _, name := range names() {
		if got := dirs.Check(name); got != api.OK {
			t.Errorf("Check(%q): %d", name, got)
		}
	}
}

// TestCheckEverywhere: each byte at each place of names of many lengths, and all names of two bytes (P13.1).
func TestCheckEverywhere(t *testing.T) {
	look := func(name string) {
		if got := dirs.Check(name); got != plainCheck(name) {
			t.Fatalf("Check(%q): %d, want %d", name, got, plainCheck(name))
		}
	}
	for _, size := range []int{1, 2, 3, 7, 8, 9, 16, 27, 28, 29, 30, 64} {
		for at := range size {
			for c := range 256 {
				for _, fill := range []string{"n", ".", "\xff", "\xc3"} {
					look(strings.Repeat(fill, at) + string([]byte{byte(c)}) + strings.Repeat(fill, size-at-1))
				}
			}
		}
	}
	for a := range 256 {
		for b := range 256 {
			look(string([]byte{byte(a), byte(b)}))
		}
	}
}

// TestMake: a directory without entries; of one that is there ErrThere, and its entries stay (P13.2).
func TestMake(t *testing.T) {
	for _, dir := range numbers() {
		x := begun(t, wide())
		x.do(call{kind: "Make", dir: dir}, call{kind: "Make", dir: dir}, call{kind: "Count", dir: dir}, call{kind: "List", dir: dir, most: 9})
		x.do(call{kind: "Add", dir: dir, name: "a", ino: dir}, call{kind: "Make", dir: dir}, call{kind: "Add", dir: dir, name: "b", ino: 1})
		x.held()
		x = x.next()
		x.do(call{kind: "Make", dir: dir})
		for _, other := range numbers() {
			x.do(call{kind: "Make", dir: other}, call{kind: "Make", dir: other}, call{kind: "Add", dir: other, name: "c", ino: 2})
		}
		x.held()
	}
}

// hurt is a batch with an error, on the tree of another.
func hurt(s *room, b *btree.Batch) *btree.Batch {
	out := btree.Open(s, b.Root())
	out.Put(nil, nil)
	return out
}

// TestFaults: every call with each of its errors alone, and with all that can be together: of names that may be and may not, in directories that are not there, are empty, have the name, and have others; in a batch that is right, one with an error, and none (P13.2 to P13.7).
func TestFaults(t *testing.T) {
	s := wide()
	x := begun(t, s)
	x.do(call{kind: "Make", dir: 1}, call{kind: "Make", dir: 2}, call{kind: "Make", dir: greatest})
	for _, name := range names()[:20] {
		x.do(call{kind: "Add", dir: 2, name: name, ino: 7})
	}
	for _, name := range names()[18:] {
		x.do(call{kind: "Add", dir: greatest, name: name, ino: 8})
	}
	x = x.next()
	broken := both{t, s, hurt(s, x.b), newAccount(x.a.now)}
	broken.a.why = api.ErrArg
	none := newAccount(folders{})
	none.none = true
	seen := map[api.Errno]int{}
	for _, kind := range kinds() {
		for _, dir := range []uint64{0, 1, 2, 3, greatest - 1, greatest} {
			for _, name := range append(names(), badNames()...) {
				c := call{kind: kind, dir: dir, name: name, ino: 9, most: 5}
				e := x.a.fault(c)
				seen[e]++
				x.do(c)
				if e == api.OK && c.changing() {
					x.do(call{kind: "Abort"})
				}
				broken.do(c)
				if got, wanted := really(nil, c), none.plainly(c); got != wanted {
					t.Errorf("%+v of no batch: %s, want %s", c, got, wanted)
				}
			}
		}
	}
	for _, e := range []api.Errno{api.OK, api.ErrName, api.ErrNameLong, api.ErrNone, api.ErrThere, api.ErrNotEmpty} {
		if seen[e] == 0 {
			t.Errorf("no call had the error %d", e)
		}
	}
	x.held()
}

// TestBatchsError: a batch's error is the answer of every call, whichever it is, also one that the chapter has another meaning for; nothing is read, and behind Abort all is as it was.
func TestBatchsError(t *testing.T) {
	s := wide()
	x := begun(t, s)
	x.do(call{kind: "Make", dir: 1}, call{kind: "Add", dir: 1, name: "a", ino: 7}, call{kind: "Make", dir: 2})
	for _, e := range []api.Errno{errRefused, api.ErrNone, api.ErrThere, api.ErrName, api.ErrNameLong, api.ErrNotEmpty, api.ErrArg, api.ErrSpace} {
		y := x.next()
		y.do(call{kind: "Add", dir: 1, name: "b", ino: 8})
		s.refuseNext("Read", 1, e)
		y.b.Get([]byte("a"))
		y.a.why, y.a.now = e, y.a.first
		reads := s.calls["Read"]
		for _, kind := range kinds() {
			for _, name := range []string{"a", "b", "..", strings.Repeat("n", 29)} {
				for dir := range uint64(4) {
					y.do(call{kind: kind, dir: dir, name: name, most: 9})
				}
			}
		}
		if s.calls["Read"] != reads || y.b.Root() != x.b.Root() {
			t.Errorf("a batch with the error %d was read, or has another root", e)
		}
		y.do(call{kind: "Abort"})
		y.held()
	}
}

// TestCookies: the first is FirstCookie, each 1 more; none is given again behind Remove, Set leaves it, and a directory that is made again begins anew (P13.3, P13.5, P13.7).
func TestCookies(t *testing.T) {
	b := fresh(t)
	add := func(name string, wanted uint64) {
		t.Helper()
		if cookie, e := dirs.Add(b, 5, name, 7); cookie != wanted || e != api.OK {
			t.Fatalf("Add(%q): %d, error %d, want %d", name, cookie, e, wanted)
		}
	}
	for round := range 3 {
		want(t, "Make", dirs.Make(b, 5), api.OK)
		want(t, "Make of another", dirs.Make(b, uint64(100+round)), api.OK)
		for i := range 40 {
			add(numbered("x", i, 2), api.FirstCookie+uint64(i))
		}
		for i := range 40 {
			dirs.Set(b, 5, numbered("x", i, 2), uint64(i))
		}
		if _, e := dirs.Remove(b, 5, "x39"); e != api.OK {
			t.Fatalf("Remove: error %d", e)
		}
		add("x39", api.FirstCookie+40)
		for i := range 40 {
			x, e := dirs.Find(b, 5, numbered("x", i, 2))
			if i < 39 && (x.Cookie != api.FirstCookie+uint64(i) || x.Ino != uint64(i)) || e != api.OK {
				t.Fatalf("Find: %+v, error %d", x, e)
			}
			dirs.Remove(b, 5, x.Name)
		}
		add("a", api.FirstCookie+41)
		dirs.Add(b, 5, "a", 8)
		dirs.Add(b, 5, "..", 8)
		dirs.Add(b, 6, "b", 8)
		dirs.Make(b, 5)
		add("b", api.FirstCookie+42)
		dirs.Remove(b, 5, "a")
		dirs.Remove(b, 5, "b")
		want(t, "Erase", dirs.Erase(b, 5), api.OK)
	}
}

// TestManyCookies: cookies rise, and are in order, far beyond two bytes, and behind a batch a new one goes on (P13.3, P13.6).
func TestManyCookies(t *testing.T) {
	t.Parallel()
	s := wide()
	b := btree.Open(s, empty(t, s))
	want(t, "Make", dirs.Make(b, 1), api.OK)
	wanted := uint64(api.FirstCookie)
	var stay []uint64
	for wanted < 66000 {
		name := numbered("", int(wanted), 6)
		cookie, e := dirs.Add(b, 1, name, wanted)
		if cookie != wanted || e != api.OK {
			t.Fatalf("Add: %d, error %d, want %d", cookie, e, wanted)
		}
		if wanted%9973 < 3 || wanted%256 < 2 && wanted < 1000 || wanted >= 65530 && wanted < 65545 {
			stay = append(stay, cookie)
		} else if _, e := dirs.Remove(b, 1, name); e != api.OK {
			t.Fatalf("Remove: error %d", e)
		}
		if wanted++; wanted%9999 == 0 {
			s.giveBack(t, b.Gone())
			b = btree.Open(s, b.Root())
		}
	}
	var got []uint64
	for x := range dirs.Each(b, 1) {
		if x.Ino != x.Cookie || x.Name != numbered("", int(x.Cookie), 6) {
			t.Fatalf("Each: %+v", x)
		}
		got = append(got, x.Cookie)
	}
	told(t, "the cookies", got, stay...)
}

// TestFindSetRemove: an entry as it is found, set and taken out, of each name and of numbers at the edges; others stay (P13.4, P13.5).
func TestFindSetRemove(t *testing.T) {
	x := begun(t, wide())
	x.do(call{kind: "Make", dir: 1}, call{kind: "Make", dir: 0})
	for i, name := range names() {
		x.do(call{kind: "Find", dir: 1, name: name}, call{kind: "Add", dir: 1, name: name, ino: numbers()[i%len(numbers())]}, call{kind: "Find", dir: 1, name: name})
	}
	x = x.next()
	for i, name := range names() {
		for _, ino := range numbers() {
			x.do(call{kind: "Set", dir: 1, name: name, ino: ino}, call{kind: "Find", dir: 1, name: name})
		}
		x.do(call{kind: "Set", dir: 1, name: name, ino: uint64(i)}, call{kind: "Find", dir: 0, name: name})
	}
	x.held()
	x = x.next()
	for _, name := range names() {
		x.do(call{kind: "Remove", dir: 0, name: name}, call{kind: "Remove", dir: 1, name: name}, call{kind: "Remove", dir: 1, name: name})
		x.do(call{kind: "Find", dir: 1, name: name}, call{kind: "Set", dir: 1, name: name})
		x.held()
	}
}

// TestSetOfTheSame: the number that an entry has already is OK, and nothing needs to be written.
func TestSetOfTheSame(t *testing.T) {
	s := wide()
	x := begun(t, s)
	x.do(call{kind: "Make", dir: 1}, call{kind: "Add", dir: 1, name: "a", ino: 7})
	x = x.next()
	root := x.b.Root()
	x.do(call{kind: "Set", dir: 1, name: "a", ino: 7})
	if x.b.Root() != root {
		t.Errorf("there is another root")
	}
}

// TestBeginnings: names of which one is the beginning of another are told apart, in whichever order they come and go (P13.3 to P13.5).
func TestBeginnings(t *testing.T) {
	long := strings.Repeat("p", api.MaxName)
	for _, step := range []int{1, 27, 3, 5, 9, 11} {
		x := begun(t, wide())
		x.do(call{kind: "Make", dir: 1})
		for i := range api.MaxName {
			x.do(call{kind: "Add", dir: 1, name: long[:1+i*step%api.MaxName], ino: uint64(i)})
		}
		x.held()
		for i := range api.MaxName {
			x.do(call{kind: "Remove", dir: 1, name: long[:1+i*5%api.MaxName]})
			for n := range api.MaxName {
				x.do(call{kind: "Find", dir: 1, name: long[:1+n]})
			}
		}
		x.do(call{kind: "Erase", dir: 1})
		x.held()
	}
}

// TestCountAndErase: with and without entries, and of what is not there; a directory that is erased leaves no key (P13.7).
func TestCountAndErase(t *testing.T) {
	for _, dir := range numbers() {
		x := begun(t, wide())
		ask := func() { x.do(call{kind: "Count", dir: dir}, call{kind: "List", dir: dir, most: greatestInt}) }
		ask()
		x.do(call{kind: "Erase", dir: dir}, call{kind: "Make", dir: dir})
		ask()
		for _, name := range names() {
			x.do(call{kind: "Add", dir: dir, name: name, ino: 7}, call{kind: "Erase", dir: dir})
			ask()
		}
		x = x.next()
		for _, name := range names() {
			x.do(call{kind: "Erase", dir: dir}, call{kind: "Remove", dir: dir, name: name})
			ask()
		}
		for range 2 {
			x.do(call{kind: "Erase", dir: dir}, call{kind: "Erase", dir: dir})
			ask()
			x.held()
			x.do(call{kind: "Make", dir: dir})
		}
		x.do(call{kind: "Add", dir: dir, name: "a", ino: 7})
		x.held()
	}
}

// TestKeys: of the tree's keys just those that begin with n, c and d are the package's, and each can be one.
func TestKeys(t *testing.T) {
	b := fresh(t)
	for _, dir := range numbers() {
		want(t, "Make", dirs.Make(b, dir), api.OK)
		for _, name := range names() {
			if _, e := dirs.Add(b, dir, name, greatest); e != api.OK {
				t.Fatalf("Add: error %d", e)
			}
		}
	}
	if n := len(theirs(b)); n > 0 {
		t.Errorf("%d keys begin with other bytes", n)
	}
}
