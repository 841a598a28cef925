package dirs_test

import (
	"fmt"
	"maps"
	"slices"
	"strings"
	"testing"

	"granary/api"
	"granary/btree"
	"granary/dirs"
)

// Here stands what the chapter's words say, one by one and without the package: the tests hold the package against it.

// folder is a directory: the cookie that was given last, and the entries by rising cookies.
type folder struct {
	last uint64
	list []api.Entry
}

// place is where in the list the name stands, and whether it does.
func (f folder) place(name string) (int, bool) {
	i := slices.IndexFunc(f.list, func(x api.Entry) bool { return x.Name == name })
	return i, i >= 0
}

// with is the folder with another list.
func (f folder) with(list []api.Entry) folder { return folder{f.last, list} }

// folders is directories by their numbers. A folder that is there is never changed, but another one put in its place.
type folders map[uint64]folder

// account is a batch: what was there at first, what is there now, and the batch's error. Where none is set, there is no batch.
type account struct {
	first, now folders
	why        api.Errno
	none       bool
}

// newAccount is a batch on a tree with these directories.
func newAccount(first folders) *account { return &account{first: first, now: maps.Clone(first)} }

// call is one of the package's calls, or one of the batch's: which, and with what.
type call struct {
	kind  string
	dir   uint64
	name  string
	ino   uint64
	after uint64
	most  int
}

// plainCheck is P13.1.
func plainCheck(name string) api.Errno {
	for _, no := range []string{"", ".", ".."} {
		if name == no {
			return api.ErrName
		}
	}
	for i := range len(name) {
		if name[i] == '/' || name[i] == 0 {
			return api.ErrName
		}
	}
	if len(name) > 28 {
		return api.ErrNameLong
	}
	return api.OK
}

// fault is the first error of a call, as the chapter names them.
func (a *account) fault(c call) api.Errno {
	f, there := a.now[c.dir]
	_, has := f.place(c.name)
	named := slices.Contains([]string{"Add", "Find", "Set", "Remove"}, c.kind)
	switch {
	case a.none:
		return api.ErrArg
	case a.why != api.OK:
		return a.why
	case named && plainCheck(c.name) != api.OK:
		return plainCheck(c.name)
	case c.kind == "Make" && there:
		return api.ErrThere
	case c.kind != "Make" && !there:
		return api.ErrNone
	case c.kind == "Add" && has:
		return api.ErrThere
	case named && c.kind != "Add" && !has:
		return api.ErrNone
	case c.kind == "Erase" && len(f.list) > 0:
		return api.ErrNotEmpty
	}
	return api.OK
}

// plainly is the call on the account, and what it answers.
func (a *account) plainly(c call) string {
	if c.kind == "Abort" {
		*a = *newAccount(a.first)
		return ""
	}
	if e := a.fault(c); e != api.OK {
		return nothing(c.kind, e)
	}
	f := a.now[c.dir]
	at, _ := f.place(c.name)
	switch c.kind {
	case "Make":
		a.now[c.dir] = folder{last: 2}
	case "Add":
		f.last++
		a.now[c.dir] = f.with(append(slices.Clone(f.list), api.Entry{Name: c.name, Ino: c.ino, Cookie: f.last}))
		return fmt.Sprintf("%d, error 0", f.last)
	case "Find":
		return fmt.Sprintf("%s, error 0", entryText(f.list[at]))
	case "Set":
		l := slices.Clone(f.list)
		l[at].Ino = c.ino
		a.now[c.dir] = f.with(l)
	case "Remove":
		a.now[c.dir] = f.with(slices.Delete(slices.Clone(f.list), at, at+1))
		return fmt.Sprintf("%s, error 0", entryText(f.list[at]))
	case "List":
		l, end := f.page(c.after, c.most)
		return fmt.Sprintf("%s %t, error 0", entryTexts(l), end)
	case "Each":
		return entryTexts(f.list)
	case "Count":
		return fmt.Sprintf("%d, error 0", len(f.list))
	case "Erase":
		delete(a.now, c.dir)
	}
	return "error 0"
}

// page is P13.6.
func (f folder) page(after uint64, most int) ([]api.Entry, bool) {
	var out []api.Entry
	for _, x := range f.list {
		if x.Cookie <= after {
			continue
		}
		if len(out) >= most {
			return out, false
		}
		out = append(out, x)
	}
	return out, true
}

// nothing is what a call answers with an error.
func nothing(kind string, e api.Errno) string {
	switch kind {
	case "Add", "Count":
		return fmt.Sprintf("0, error %d", e)
	case "Find", "Remove":
		return fmt.Sprintf("%s, error %d", entryText(api.Entry{}), e)
	case "List":
		return fmt.Sprintf("%s false, error %d", entryTexts(nil), e)
	case "Each":
		return entryTexts(nil)
	}
	return fmt.Sprintf("error %d", e)
}

// entryText is an entry in one text.
func entryText(x api.Entry) string { return fmt.Sprintf("%q %d %d", x.Name, x.Ino, x.Cookie) }

// entryTexts is entries in one text.
func entryTexts(l []api.Entry) string {
	out := []string{}
	for _, x := range l {
		out = append(out, entryText(x))
	}
	return "[" + strings.Join(out, "; ") + "]"
}

// really is the call on a batch, and what it answers.
func really(b *btree.Batch, c call) string {
	switch c.kind {
	case "Abort":
		b.Abort()
		return ""
	case "Make":
		return fmt.Sprintf("error %d", dirs.Make(b, c.dir))
	case "Add":
		cookie, e := dirs.Add(b, c.dir, c.name, c.ino)
		return fmt.Sprintf("%d, error %d", cookie, e)
	case "Find":
		x, e := dirs.Find(b, c.dir, c.name)
		return fmt.Sprintf("%s, error %d", entryText(x), e)
	case "Set":
		return fmt.Sprintf("error %d", dirs.Set(b, c.dir, c.name, c.ino))
	case "Remove":
		x, e := dirs.Remove(b, c.dir, c.name)
		return fmt.Sprintf("%s, error %d", entryText(x), e)
	case "List":
		l, end, e := dirs.List(b, c.dir, c.after, c.most)
		return fmt.Sprintf("%s %t, error %d", entryTexts(l), end, e)
	case "Each":
		return entryTexts(slices.Collect(dirs.Each(b, c.dir)))
	case "Count":
		n, e := dirs.Count(b, c.dir)
		return fmt.Sprintf("%d, error %d", n, e)
	case "Erase":
		return fmt.Sprintf("error %d", dirs.Erase(b, c.dir))
	}
	panic(c.kind)
}

// kinds is all calls of the package that have a batch.
func kinds() []string {
	return []string{"Make", "Add", "Find", "Set", "Remove", "List", "Each", "Count", "Erase"}
}

// changing: the call changes something, if it has no error.
func (c call) changing() bool {
	return slices.Contains([]string{"Make", "Add", "Set", "Remove", "Erase"}, c.kind)
}

// both is a batch, and an account beside it.
type both struct {
	t *testing.T
	s *room
	b *btree.Batch
	a *account
}

// begun is both, on a new tree in that space that has nothing but others' keys.
func begun(t *testing.T, s *room) both {
	t.Helper()
	b := btree.Open(s, empty(t, s))
	for k, v := range others() {
		b.Put([]byte(k), []byte(v))
	}
	want(t, "Why", b.Why(), api.OK)
	s.giveBack(t, b.Gone())
	return both{t, s, b, newAccount(folders{})}.next()
}

// next is both, with a new batch on the tree as it is now.
func (x both) next() both {
	x.t.Helper()
	want(x.t, "Why", x.b.Why(), api.OK)
	return both{x.t, x.s, btree.Open(x.s, x.b.Root()), newAccount(x.a.now)}
}

// do makes the calls on both, and holds them against each other. What answers an error, or only asks, has changed nothing.
func (x both) do(calls ...call) {
	x.t.Helper()
	for _, c := range calls {
		root, changes := x.b.Root(), x.s.changes()
		fails := c.kind != "Abort" && x.a.fault(c) != api.OK
		wanted, got := x.a.plainly(c), really(x.b, c)
		if got != wanted || x.b.Why() != x.a.why {
			x.t.Fatalf("%+v: %.500s, the batch's error %d, want %.500s, %d", c, got, x.b.Why(), wanted, x.a.why)
		}
		if c.kind == "Abort" || c.changing() && !fails {
			continue
		}
		if x.s.changes() != changes || x.b.Root() != root {
			x.t.Fatalf("%+v: %s, and something was changed", c, got)
		}
	}
}

// held holds all that can be asked of the batch's tree against the account: every directory, those that are not there, and others' keys.
func (x both) held() {
	x.t.Helper()
	for _, dir := range append(slices.Sorted(maps.Keys(x.a.now)), numbers()...) {
		x.do(call{kind: "Count", dir: dir}, call{kind: "Each", dir: dir}, call{kind: "List", dir: dir, most: greatestInt})
		for _, e := range x.a.now[dir].list {
			x.do(call{kind: "Find", dir: dir, name: e.Name})
		}
	}
	if x.a.why != api.OK {
		return
	}
	if k := unlike(others(), theirs(x.b)); k != "" {
		x.t.Fatalf("the key %q of others has changed", k)
	}
	if n := owns(x.b); len(x.a.now) == 0 && n > 0 {
		x.t.Fatalf("there is no directory, and %d keys are left", n)
	}
}

// numbers is numbers of directories: the edges, and neighbours of which one's bytes are greater by a carry.
func numbers() []uint64 {
	return []uint64{0, 1, 2, 255, 256, 257, 1<<32 - 1, 1 << 32, 0x6363636363636363, 1 << 63, greatest - 1, greatest}
}

// names is names that may be: beginnings of each other, bytes of all kinds, the longest.
func names() []string {
	long := strings.Repeat("n", api.MaxName-1)
	return []string{
		"a", "aa", "ab", "a\x01", "b", "c", "d", "n", "...", ". ", "..a", " ", "\\", "\x01", "\x7f", "\x80", "\xff", "\xff\xff", "ä", "\xc3",
		long, long + "a", long + "n", long + "\xff", strings.Repeat("\xff", api.MaxName), strings.Repeat(".", api.MaxName),
	}
}

// badNames is names that may not be.
func badNames() []string {
	long := strings.Repeat("n", api.MaxName)
	return []string{
		"", ".", "..", "/", "\x00", "a/", "/a", "a\x00", "\x00a", "./", "../", long + "n", long + "/", "/" + long, long + "\x00", "\x00" + long,
		strings.Repeat("\xff", api.MaxName+1), strings.Repeat("n", 5000), strings.Repeat("/", 5000),
	}
}

// drawnCall is a call on one of the directories; of 100 so many are Add.
func drawnCall(d *dice, where []uint64, adds int) call {
	c := call{dir: one(d, where), name: one(d, names()), ino: one(d, numbers()) ^ uint64(d.below(99))}
	if d.below(20) == 0 {
		c.name = one(d, badNames())
	}
	if d.below(100) < adds {
		c.kind = "Add"
		return c
	}
	c.kind = one(d, append(kinds(), "Make", "Make", "Remove", "Remove", "Remove", "Set", "Erase", "Erase"))
	if c.kind == "List" {
		c.after, c.most = uint64(d.below(60)), d.below(20)-2
		if d.below(5) == 0 {
			c.after, c.most = one(d, numbers()), one(d, []int{leastInt, 1, greatestInt})
		}
	}
	if d.below(500) == 0 {
		c.kind = "Abort"
	}
	return c
}

// TestDrawn: long drawn lists of calls over several directories, over several batches on a tree that also has others' keys (P13.1 to P13.7, P13.9).
func TestDrawn(t *testing.T) {
	t.Parallel()
	d := dice(13)
	for range 4 {
		s := wide()
		x := begun(t, s)
		for round := range 60 {
			where := numbers()[:2+d.below(len(numbers())-1)]
			for range 1 + d.below(100) {
				x.do(drawnCall(&d, where, 50-round%5*10))
			}
			x.held()
			if d.below(6) == 0 {
				x.do(call{kind: "Abort"})
				x.held()
			}
			s.giveBack(t, x.b.Gone())
			x = x.next()
		}
	}
}

// TestShort: all lists of four of some calls, behind none and behind a few (P13.2 to P13.7).
func TestShort(t *testing.T) {
	t.Parallel()
	calls := []call{
		{kind: "Make", dir: 1}, {kind: "Make", dir: 2}, {kind: "Add", dir: 1, name: "a", ino: 7}, {kind: "Add", dir: 1, name: "ab", ino: 8},
		{kind: "Add", dir: 2, name: "a", ino: 9}, {kind: "Set", dir: 1, name: "a", ino: 5}, {kind: "Remove", dir: 1, name: "a"},
		{kind: "Remove", dir: 2, name: "a"}, {kind: "Find", dir: 1, name: "ab"}, {kind: "List", dir: 1, after: 3, most: 1}, {kind: "Erase", dir: 1}, {kind: "Erase", dir: 2},
	}
	for _, ahead := range [][]call{nil, {calls[0], calls[1], calls[3], calls[4], calls[2]}} {
		s := wide()
		x := begun(t, s)
		x.do(ahead...)
		x = x.next()
		for i := range len(calls) * len(calls) * len(calls) * len(calls) {
			for range 4 {
				x.do(calls[i%len(calls)])
				i /= len(calls)
			}
			for _, dir := range []uint64{1, 2} {
				x.do(call{kind: "List", dir: dir, most: greatestInt}, call{kind: "Find", dir: dir, name: "a"})
			}
			x.do(call{kind: "Abort"})
		}
		x.held()
	}
}
