package merkle_test

import (
	"cmp"
	"maps"
	"math"
	"slices"
	"strings"
	"testing"

	"granary/api"
	"granary/dirs"
	"granary/inode"
	"granary/merkle"
)

// thereAndBack: PutDir puts the object of the items' bytes, and GetDir answers the items (P17.4, P17.8).
func thereAndBack(t *testing.T, l []api.Item) {
	t.Helper()
	s := newShelf()
	d, e := merkle.PutDir(s, l)
	if e != api.OK {
		t.Fatalf("PutDir of %d items: error %d", len(l), e)
	}
	var calls []call
	for _, c := range plainPut('D', plainItems(l)) {
		calls = append(calls, call{'p', digest(c)})
	}
	if !slices.Equal(s.heard(), calls) || d != calls[len(calls)-1].digest {
		t.Errorf("PutDir of %d items: other chunks", len(l))
	}
	got, e := merkle.GetDir(s, d)
	if !slices.Equal(got, l) || e != api.OK {
		t.Errorf("GetDir of %d items: %s, error %d", len(l), names(got), e)
	}
	agrees(t, s, asks(d)[:3]...)
}

// TestDir: no items, one, many, of all kinds (P17.4, P17.8).
func TestDir(t *testing.T) {
	for _, n := range []int{0, 1, 2, 3, 7, 8, 16, 17, 130, 1000} {
		thereAndBack(t, many(n))
	}
	d := digest("a")
	for _, x := range []api.Item{fileItem("a", 0, d), fileItem(strings.Repeat("a", 28), math.MaxUint64, d), dirItem("...", 1, d), linkItem("\x01\xff", 1<<63), fileItem(".a", 256, d), fileItem("a.", 1<<32, d)} {
		thereAndBack(t, []api.Item{x})
	}
	for n := range 255 {
		x := linkItem("l", 3)
		x.Inode.Target, x.Inode.Size = strings.Repeat("t", n+1), uint64(n+1)
		thereAndBack(t, []api.Item{x})
	}
	x := api.Inode{Number: math.MaxUint64, Generation: math.MaxUint32, Kind: api.KindDir, Mode: 4095, Links: 32000, Uid: 1 << 31, Gid: 1 << 30, Size: api.MaxFile, Blocks: 1 << 63, Atime: 1, Mtime: 2, Ctime: math.MaxUint64, Root: 3}
	thereAndBack(t, []api.Item{{Name: "a", Cookie: 3, Inode: x, Object: d}})
}

// TestDirNames: names need not rise, and cookies need not follow one another (P17.4).
func TestDirNames(t *testing.T) {
	d := digest("a")
	thereAndBack(t, []api.Item{fileItem("b", 1, d), fileItem("a", 2, d), linkItem("c", 1000), fileItem("B", math.MaxUint64-1, d)})
}

// TestExampleBytes: the bytes of one item, one by one (P17.4).
func TestExampleBytes(t *testing.T) {
	x, e := inode.New(7, 1, api.KindDir, 0o40755, 0, 0, 5)
	want(t, "New", e, api.OK)
	d := digest("a")
	s := newShelf()
	dir := putsDir(t, s, api.Item{Name: "ab", Cookie: 258, Inode: x, Object: d})
	known, _ := inode.Put(x)
	bytes := "\x02ab" + "\x00\x00\x00\x00\x00\x00\x01\x02" + "\x00\x54" + string(known) + string(d[:])
	if got, e := merkle.Read(s, dir, 0, 1000); string(got) != bytes || e != api.OK {
		t.Errorf("the bytes: %q, error %d, want %q", got, e, bytes)
	}
	link := linkItem("l", 3)
	link.Inode.Target, link.Inode.Size = strings.Repeat("t", 255), 255
	dir = putsDir(t, s, link)
	known, _ = inode.Put(link.Inode)
	bytes = "\x01l" + "\x00\x00\x00\x00\x00\x00\x00\x03" + "\x01\x54" + string(known) + zeros(32)
	if got, e := merkle.Read(s, dir, 0, 1000); string(got) != bytes || e != api.OK {
		t.Errorf("the bytes of a link: %q, error %d, want %q", got, e, bytes)
	}
}

// itemFault is what makes an item one that PutDir refuses, with what, and how early that is named.
type itemFault struct {
	name string
	err  api.Errno
	rank int
	do   func(l []api.Item, i int)
}

// itemFaults is P17.4's errors of items, in the chapter's order.
func itemFaults() []itemFault {
	var out []itemFault
	for _, name := range []string{"", ".", "..", "a/b", "/", "\x00", "a\x00", strings.Repeat("a", 29), strings.Repeat("/", 29), strings.Repeat("a", 300)} {
		out = append(out, itemFault{"the name " + name, dirs.Check(name), 0, func(l []api.Item, i int) { l[i].Name = name }})
	}
	for _, x := range inodeFaults() {
		out = append(out, itemFault{"an inode", inode.Check(x), 1, func(l []api.Item, i int) { l[i].Inode = x }})
	}
	return append(out,
		itemFault{"a cookie that stays", api.ErrArg, 2, func(l []api.Item, i int) { l[i].Cookie = l[max(i-1, 0)].Cookie }},
		itemFault{"a cookie that falls", api.ErrArg, 2, func(l []api.Item, i int) { l[i].Cookie = 0 }},
		itemFault{"no object", api.ErrArg, 2, func(l []api.Item, i int) { l[i].Object = none }},
		itemFault{"no object of a directory", api.ErrArg, 2, func(l []api.Item, i int) { l[i].Inode, l[i].Object = inodeOf(api.KindDir, 4), none }},
		itemFault{"an object of a link", api.ErrArg, 2, func(l []api.Item, i int) { l[i].Inode = inodeOf(api.KindLink, 4) }},
		itemFault{"a link's object of one byte", api.ErrArg, 2, func(l []api.Item, i int) { l[i].Inode, l[i].Object = inodeOf(api.KindLink, 4), api.Digest{31: 1} }},
	)
}

// three is items that PutDir takes.
func three() []api.Item {
	return []api.Item{fileItem("b", 3, digest("a")), fileItem("a", 5, digest("b")), dirItem("c", 7, digest("c"))}
}

// refusesItems: PutDir refuses them, and puts nothing; GetDir does not take their bytes (P17.4).
func refusesItems(t *testing.T, name string, l []api.Item, e api.Errno) {
	t.Helper()
	s := newShelf()
	if d, why := merkle.PutDir(s, l); d != none || why != e || len(s.heard()) != 0 {
		t.Errorf("PutDir, %s: %x, error %d, want %d", name, d, why, e)
	}
	if why := plainCheck(l); why != e {
		t.Errorf("the account of %s: error %d, want %d", name, why, e)
	}
	d := s.put('D', plainItems(l))
	if got, why := merkle.GetDir(s, d); got != nil || why != api.ErrObject {
		t.Errorf("GetDir, %s: %d items, error %d", name, len(got), why)
	}
}

// TestItemsRefused: each error alone, at each place (P17.4).
func TestItemsRefused(t *testing.T) {
	for _, f := range itemFaults() {
		for i := range 3 {
			l := three()
			if f.do(l, i); i == 0 && strings.HasPrefix(f.name, "a cookie") {
				thereAndBack(t, l) // the first one may have any
				continue
			}
			refusesItems(t, f.name, l, f.err)
		}
	}
}

// TestItemsRefusedBoth: every two errors, at every two places: the one that is named first, and of one kind the one that stands ahead (P17.4).
func TestItemsRefusedBoth(t *testing.T) {
	for _, f := range itemFaults() {
		for _, g := range itemFaults() {
			for i := range 3 {
				for j := range 3 {
					if i == j {
						continue
					}
					l := three()
					f.do(l, i)
					g.do(l, j)
					first, second := f, g
					if i > j {
						first, second = g, f
					}
					e := first.err
					if second.rank < first.rank {
						e = second.err
					}
					if plainCheck(l) == api.OK || min(i, j) == 0 && strings.HasPrefix(first.name, "a cookie") {
						continue // the first item may have any cookie
					}
					refusesItems(t, f.name+" and "+g.name, l, e)
				}
			}
		}
	}
}

// TestItemsRefusedOne: every two errors of one item (P17.4).
func TestItemsRefusedOne(t *testing.T) {
	for _, f := range itemFaults() {
		for _, g := range itemFaults() {
			if f.rank >= g.rank {
				continue
			}
			l := three()
			g.do(l, 1)
			f.do(l, 1)
			refusesItems(t, f.name+" and "+g.name, l, f.err)
		}
	}
}

// TestDirGreatest: the items that have room in a directory's bytes, and one more; errors of items come ahead of that (P17.4).
func TestDirGreatest(t *testing.T) {
	t.Parallel()
	var l []api.Item
	for i := range api.MaxFile / 128 {
		l = append(l, fileItem(string(rune('a'+i%26)), uint64(i), digest("a")))
	}
	thereAndBack(t, l)
	l[0].Name = "aa"
	s := newShelf()
	if d, e := merkle.PutDir(s, l); d != none || e != api.ErrLong || len(s.heard()) != 0 {
		t.Errorf("PutDir of a byte more: %x, error %d", d, e)
	}
	l = append(l, l[0])
	for _, e := range []api.Errno{api.ErrArg, api.ErrLong, api.ErrLinks, api.ErrName} {
		switch x := &l[len(l)-1]; e {
		case api.ErrLong:
			x.Cookie = 1 << 40
		case api.ErrLinks:
			x.Inode.Links = 32001
		case api.ErrName:
			x.Name = ".."
		}
		if d, why := merkle.PutDir(s, l); d != none || why != e || len(s.heard()) != 0 {
			t.Errorf("PutDir of an item more: %x, error %d, want %d", d, why, e)
		}
	}
}

// TestDirRefused: a store that refuses any of its calls; errors of items come ahead of that (P17.4).
func TestDirRefused(t *testing.T) {
	s := newShelf()
	for _, n := range []int{0, 1, 5, 40} {
		l := many(n)
		refusedEach(t, "PutDir", newShelf(), func(s api.Chunks) answer { return putAnswer(merkle.PutDir(s, l)) })
		refusedEach(t, "GetDir", s, asks(putsDir(t, s, l...))[1].real)
	}
	for _, f := range itemFaults()[:20] {
		l := three()
		f.do(l, 2)
		s.refuseAt(1, errBroken)
		_, e := merkle.PutDir(s, l)
		want(t, f.name, e, f.err)
	}
}

// TestDirBytes: bytes that are cut short at every place, and turned there, and others behind the last item (P17.4).
func TestDirBytes(t *testing.T) {
	t.Parallel()
	l := []api.Item{fileItem("ab", 3, digest("a")), linkItem("l", 1<<40), dirItem("d", 1<<50, digest("b"))}
	l[1].Inode.Target, l[1].Inode.Size = "to/where", 8
	whole := plainItems(l)
	lone := len(plainItem(l[0]))
	for end := range len(whole) {
		s := newShelf()
		d := s.put('D', whole[:end])
		got, e := merkle.GetDir(s, d)
		if end == 0 || end == lone || end == lone+len(plainItem(l[1])) {
			if len(got) == 3 || e != api.OK {
				t.Errorf("cut at the end of an item: %s, error %d", names(got), e)
			}
		} else if got != nil || e != api.ErrObject {
			t.Errorf("cut at %d: %s, error %d", end, names(got), e)
		}
		agrees(t, s, asks(d)[1:3]...)
	}
	for _, more := range []string{"\x00", "a", "\x01", "\xff", zeros(8), zeros(32), zeros(300), "\x01z", plainItem(l[2])[:40], plainItem(l[0])} {
		s := newShelf()
		d := s.put('D', whole+more)
		if got, e := merkle.GetDir(s, d); got != nil || e != api.ErrObject {
			t.Errorf("%q behind: %s, error %d", more, names(got), e)
		}
	}
	for at := range len(whole) {
		for _, with := range []byte{0, 1, whole[at] + 1, whole[at] - 1, whole[at] ^ 128, 255, '/'} {
			s := newShelf()
			agrees(t, s, asks(s.put('D', whole[:at]+string([]byte{with})+whole[at+1:]))[1:3]...)
		}
	}
}

// TestDirNone: digests that are no directory's (P17.4).
func TestDirNone(t *testing.T) {
	s := newShelf()
	file := puts(t, s, 'F', plainItems(three()))
	empty := puts(t, s, 'F', "")
	for d := range maps.Clone(s.plain) {
		if got, e := merkle.GetDir(s, d); got != nil || e != api.ErrObject {
			t.Errorf("GetDir of %x: %s, error %d", d, names(got), e)
		}
	}
	for _, d := range []api.Digest{file, empty} {
		s.heard()
		_, e := merkle.GetDir(s, d)
		want(t, "GetDir of a file", e, api.ErrObject)
		if n := len(s.heard()); n != 1 {
			t.Errorf("GetDir of a file reads %d chunks", n)
		}
	}
	for _, d := range []api.Digest{none, digest("a")} {
		if got, e := merkle.GetDir(s, d); got != nil || e != api.ErrNone {
			t.Errorf("GetDir of what is not there: %s, error %d", names(got), e)
		}
	}
	for _, c := range append(heads(), plainHead('F', 5, string(make([]byte, 31))+"a")) {
		agrees(t, s, asks(s.lay(c))[1])
	}
}

// TestDirWrong: a directory's chunks that are lost, or others (P17.4).
func TestDirWrong(t *testing.T) {
	t.Parallel()
	s := newShelf()
	d := putsDir(t, s, many(30)...)
	for part, c := range s.plain {
		hurt := on(s.plain)
		for _, other := range forms(c) {
			hurt.plain[part] = other
			agrees(t, hurt, asks(d)...)
		}
		delete(hurt.plain, part)
		agrees(t, hurt, asks(d)...)
	}
}

// TestDirOrder: the store's error of a directory's bytes comes ahead of what may be wrong with those that are there; a file is none, whatever is lost (P17.4).
func TestDirOrder(t *testing.T) {
	s := newShelf()
	bytes := strings.Repeat("\xff", 600)
	for kind, e := range map[byte]api.Errno{'D': api.ErrNone, 'F': api.ErrObject} {
		d := s.put(kind, bytes)
		delete(s.plain, digest("L"+bytes[:88]))
		_, why := merkle.GetDir(s, d)
		want(t, "a leaf that is lost", why, e)
	}
}

// TestDirReads: GetDir reads each chunk of a directory once (P17.4).
func TestDirReads(t *testing.T) {
	s := newShelf()
	d := putsDir(t, s, many(100)...)
	s.heard()
	merkle.GetDir(s, d)
	got := s.heard()
	slices.SortFunc(got, func(a, b call) int { return cmp.Compare(string(a.digest[:]), string(b.digest[:])) })
	if n := len(slices.Compact(slices.Clone(got))); n != len(got) || n != len(s.plain) {
		t.Errorf("GetDir reads %d chunks, %d of them alike, of %d", len(got), len(got)-n, len(s.plain))
	}
}
