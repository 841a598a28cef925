package merkle_test

import (
	"slices"
	"strings"
	"testing"

	"granary/api"
	"granary/merkle"
)

// unlike: Diff tells those paths: - in the first alone, + in the second alone, ! in both; and turned round the same.
func unlike(t *testing.T, s *shelf, a, b api.Digest, want string) {
	t.Helper()
	agrees(t, s, diffs(a, b), diffs(b, a))
	for _, turned := range []bool{false, true} {
		var w []api.Differ
		for line := range strings.FieldsSeq(want) {
			x := api.Differ{Path: line[1:], Was: line[0] != '+', Is: line[0] != '-'}
			if turned {
				x.Was, x.Is = x.Is, x.Was
			}
			w = append(w, x)
		}
		if got, e := merkle.Diff(s, a, b); !slices.Equal(got, w) || e != api.OK {
			t.Errorf("Diff: %s, error %d, want %s", brief(answer{found: got}), e, want)
		}
		a, b = b, a
	}
}

// TestDiff: items in one alone, first, last and in the midst, and such as are in both (P17.6).
func TestDiff(t *testing.T) {
	s := newShelf()
	x, y := digest("x"), digest("y")
	file := func(name string, d api.Digest) api.Item { return fileItem(name, 0, d) }
	dir := func(l ...api.Item) api.Digest {
		for i := range l {
			l[i].Cookie = uint64(i + 3)
		}
		return putsDir(t, s, l...)
	}
	link := linkItem("l", 0)
	other := linkItem("l", 0)
	other.Inode.Target = "x" + other.Inode.Target[1:]
	touched := file("a", x)
	touched.Inode.Atime++
	deep := func(d api.Digest) api.Item { return dirItem("d", 0, d) }
	for _, c := range []struct {
		a, b api.Digest
		want string
	}{
		{dir(), dir(), ""},
		{dir(file("a", x)), dir(file("a", x)), ""},
		{dir(file("a", x)), dir(), "-a"},
		{dir(file("b", x), file("c", x)), dir(file("a", x), file("b", x), file("c", x)), "+a"},
		{dir(file("a", x), file("c", x)), dir(file("a", x), file("b", x), file("c", x)), "+b"},
		{dir(file("a", x), file("b", x)), dir(file("a", x), file("b", x), file("c", x)), "+c"},
		{dir(file("a", x), file("c", x), file("e", x)), dir(file("b", x), file("d", x), file("f", x)), "-a +b -c +d -e +f"},
		{dir(file("a", x)), dir(file("a", y)), "!a"},
		{dir(touched), dir(file("a", x)), "!a"},
		{dir(touched), dir(file("a", y)), "!a"},
		{dir(file("z", x), file("a", y), file("m", x)), dir(file("m", y), file("z", y), file("a", x)), "!a !m !z"}, // by name, not by cookie
		{dir(link), dir(other), "!l"},
		{dir(link), dir(file("l", x)), "!l"},
		{dir(link), dir(link), ""},
		{dir(file("B", x), file("a", x), file("\xff", x), file("~", x)), dir(), "-B -a -~ -\xff"}, // bytes
		{dir(deep(dir())), dir(deep(dir(file("a", x)))), "!d +d/a"},
		{dir(deep(dir())), dir(file("d", x)), "!d"}, // a directory in one, a file in the other
		{dir(deep(dir(file("a", x)))), dir(), "-d"}, // in one alone: not gone into
		{dir(deep(dir(deep(dir(file("a", x)))))), dir(deep(dir(deep(dir(file("a", y), file("b", y)))))), "!d !d/d !d/d/a +d/d/b"},
		{dir(deep(dir(deep(dir(file("a", x)))))), dir(deep(dir())), "!d -d/d"},
	} {
		unlike(t, s, c.a, c.b, c.want)
	}
}

// TestDiffCookies: these have no part (P17.6).
func TestDiffCookies(t *testing.T) {
	s := newShelf()
	a := putsDir(t, s, fileItem("a", 3, digest("x")), linkItem("b", 4), dirItem("c", 5, putsDir(t, s)))
	b := putsDir(t, s, linkItem("b", 1), dirItem("c", 5, putsDir(t, s)), fileItem("a", 1<<60, digest("x")))
	unlike(t, s, a, b, "")
	outer := putsDir(t, s, dirItem("d", 3, a))
	other := putsDir(t, s, dirItem("d", 3, b))
	unlike(t, s, outer, other, "!d") // the Objects are unlike, and nothing in them is
}

// TestDiffOrder: paths in a directory come behind it, and ahead of the next name, also where their bytes stand otherwise (P17.6).
func TestDiffOrder(t *testing.T) {
	s := newShelf()
	x, y := digest("x"), digest("y")
	inner := func(d api.Digest) api.Digest { return putsDir(t, s, fileItem("z", 3, d), fileItem("a", 4, d)) }
	outer := func(d api.Digest) api.Digest {
		return putsDir(t, s, fileItem("a-b", 3, d), dirItem("a", 4, inner(d)), fileItem("a.", 5, d), fileItem("a0", 6, d), dirItem("aa", 7, inner(d)), fileItem("a\x01", 8, d), fileItem("A", 9, d))
	}
	unlike(t, s, outer(x), outer(y), "!A !a !a/a !a/z !a\x01 !a-b !a. !a0 !aa !aa/a !aa/z")
}

// TestDiffInodes: each field of an inode that is unlike is told, and a directory whose Objects are alike is not gone into (P17.6).
func TestDiffInodes(t *testing.T) {
	s := newShelf()
	inner := putsDir(t, s, fileItem("a", 3, digest("x")))
	plain := dirItem("d", 3, inner)
	a := putsDir(t, s, plain)
	for _, do := range []func(x *api.Inode){
		func(x *api.Inode) { x.Number++ }, func(x *api.Inode) { x.Generation++ }, func(x *api.Inode) { x.Kind = api.KindFile }, func(x *api.Inode) { x.Mode++ },
		func(x *api.Inode) { x.Links++ }, func(x *api.Inode) { x.Uid++ }, func(x *api.Inode) { x.Gid++ }, func(x *api.Inode) { x.Size++ }, func(x *api.Inode) { x.Blocks++ },
		func(x *api.Inode) { x.Atime++ }, func(x *api.Inode) { x.Mtime++ }, func(x *api.Inode) { x.Ctime++ }, func(x *api.Inode) { x.Root++ },
	} {
		other := plain
		do(&other.Inode)
		b := putsDir(t, s, other)
		unlike(t, s, a, b, "!d")
		delete(s.plain, inner) // it is not read
		unlike(t, s, a, b, "!d")
		s.plain.put('D', plainItems([]api.Item{fileItem("a", 3, digest("x"))}))
	}
}

// TestDiffKinds: what an item's inode says is a directory is gone into just if both are, whatever the objects are (P17.6).
func TestDiffKinds(t *testing.T) {
	s := newShelf()
	one, two := putsDir(t, s, fileItem("a", 3, digest("x"))), putsDir(t, s)
	file := puts(t, s, 'F', "a")
	item := func(x api.Item) api.Digest { return putsDir(t, s, x) }
	unlike(t, s, item(fileItem("d", 3, one)), item(fileItem("d", 3, two)), "!d")
	unlike(t, s, item(dirItem("d", 3, one)), item(fileItem("d", 3, two)), "!d")
	unlike(t, s, item(dirItem("d", 3, one)), item(dirItem("d", 3, two)), "!d -d/a")
	agrees(t, s, diffs(item(dirItem("d", 3, one)), item(dirItem("d", 3, file))), diffs(item(dirItem("d", 3, file)), item(dirItem("d", 3, two))))
	_, e := merkle.Diff(s, item(dirItem("d", 3, one)), item(dirItem("d", 3, file)))
	want(t, "a directory whose object is a file's", e, api.ErrObject)
}

// noDiff: none, and that error.
func noDiff(t *testing.T, name string, s *shelf, a, b api.Digest, e api.Errno) {
	t.Helper()
	agrees(t, s, diffs(a, b))
	if l, why := merkle.Diff(s, a, b); l != nil || why != e {
		t.Errorf("Diff, %s: %s, error %d, want error %d", name, brief(answer{found: l}), why, e)
	}
}

// TestDiffErrors: digests that are no directory's, a's error ahead of b's, and errors further down (P17.6).
func TestDiffErrors(t *testing.T) {
	s := newShelf()
	dir, file, leaf, lost := putsDir(t, s, linkItem("l", 3)), puts(t, s, 'F', ""), s.lay("La"), digest("lost")
	noDiff(t, "two files", s, file, file, api.ErrObject)
	noDiff(t, "a file", s, file, dir, api.ErrObject)
	noDiff(t, "a file behind", s, dir, file, api.ErrObject)
	noDiff(t, "a leaf", s, leaf, dir, api.ErrObject)
	noDiff(t, "what is not there", s, lost, dir, api.ErrNone)
	noDiff(t, "what is not there behind", s, dir, lost, api.ErrNone)
	noDiff(t, "both", s, lost, file, api.ErrNone)
	noDiff(t, "both turned round", s, file, lost, api.ErrObject)
	noDiff(t, "the same that is not there", s, lost, lost, api.ErrNone)
	outer := func(b, d api.Digest) api.Digest {
		return putsDir(t, s, fileItem("a", 3, file), dirItem("d", 4, d), dirItem("b", 5, b))
	}
	noDiff(t, "further down", s, outer(dir, lost), outer(dir, dir), api.ErrNone)
	noDiff(t, "further down behind", s, outer(dir, dir), outer(dir, file), api.ErrObject)
	noDiff(t, "the first by name", s, outer(lost, file), outer(dir, dir), api.ErrNone)
	noDiff(t, "the first by name of the other", s, outer(dir, lost), outer(file, dir), api.ErrObject)
	noDiff(t, "both further down", s, outer(lost, dir), outer(file, dir), api.ErrNone)
	noDiff(t, "both further down turned round", s, outer(file, dir), outer(lost, dir), api.ErrObject)
	unlike(t, s, outer(lost, dir), outer(lost, dir), "") // what is alike is not gone into
}

// TestDiffRefused: a store that refuses any of its calls (P17.6).
func TestDiffRefused(t *testing.T) {
	s := newShelf()
	a, b := forest(t, s), putsDir(t, s, many(9)...)
	inner := putsDir(t, s, linkItem("x", 4))
	c := putsDir(t, s, dirItem("o", 4, inner), dirItem("i", 5, inner))
	for _, x := range []ask{diffs(a, b), diffs(b, a), diffs(a, a), diffs(a, c), diffs(c, a)} {
		refusedEach(t, "Diff", s, x.real)
	}
	unlike(t, s, c, a, "+a +c +f !i +i/a +i/b +i/e +i/l -i/x !o +o/c +o/i +o/j +o/n -o/x")
}

// TestDiffTwice: items of one name, one behind the other, are held against each other in their order (P17.6).
func TestDiffTwice(t *testing.T) {
	s := newShelf()
	x, y := digest("x"), digest("y")
	a := putsDir(t, s, fileItem("a", 3, x), fileItem("a", 4, y), fileItem("b", 5, x))
	b := putsDir(t, s, fileItem("b", 3, x), fileItem("a", 4, x))
	if l, e := merkle.Diff(s, a, b); !slices.Equal(l, []api.Differ{{Path: "a", Was: true}}) || e != api.OK {
		t.Errorf("Diff: %s, error %d", brief(answer{found: l}), e)
	}
	if l, e := merkle.Diff(s, a, a); len(l) != 0 || e != api.OK {
		t.Errorf("Diff of itself: %s, error %d", brief(answer{found: l}), e)
	}
	var many, sorted []api.Item
	for i := range 100 {
		many = append(many, fileItem([]string{"a", "b", "c"}[i*i%3], uint64(i), digest(numbered(i))))
	}
	for _, name := range []string{"a", "b", "c"} {
		for _, x := range many {
			if x.Name == name {
				x.Cookie = uint64(len(sorted))
				sorted = append(sorted, x)
			}
		}
	}
	if l, e := merkle.Diff(s, putsDir(t, s, many...), putsDir(t, s, sorted...)); len(l) != 0 || e != api.OK {
		t.Errorf("Diff of many of one name: %s, error %d", brief(answer{found: l}), e)
	}
}

// TestDiffDeep: directories in directories, many times (P17.6).
func TestDiffDeep(t *testing.T) {
	t.Parallel()
	s := newShelf()
	a, b := putsDir(t, s), putsDir(t, s, linkItem("l", 3))
	const deep = 3000
	for range deep {
		a, b = putsDir(t, s, dirItem("d", 3, a)), putsDir(t, s, dirItem("d", 3, b))
	}
	l, e := merkle.Diff(s, a, b)
	if len(l) != deep+1 || e != api.OK || l[deep] != (api.Differ{Path: strings.Repeat("d/", deep) + "l", Is: true}) {
		t.Errorf("Diff: %d paths, error %d", len(l), e)
	}
}
