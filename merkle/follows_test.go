package merkle_test

import (
	"maps"
	"slices"
	"testing"

	"granary/api"
	"granary/arena"
	"granary/merkle"
)

// board is a device in memory.
type board [][]byte

func (b board) Len() int { return len(b) }

func (b board) Read(i int) ([]byte, api.Errno) { return slices.Clone(b[i]), api.OK }

func (b board) Write(i int, p []byte) api.Errno {
	b[i] = slices.Clone(p)
	return api.OK
}

func (b board) Flush() api.Errno { return api.OK }

// overArena is layer 16's store on so many blocks.
func overArena(t *testing.T, blocks int) *arena.Store {
	t.Helper()
	b := make(board, blocks)
	want(t, "Format", arena.Format(b, 0, blocks), api.OK)
	s, e := arena.Open(b, 0, blocks)
	want(t, "Open", e, api.OK)
	return s
}

// counted is a store that counts what it is asked for, by what the chunks begin with.
type counted struct {
	api.Chunks
	puts int
	gets map[byte]int
}

func (c *counted) Put(p []byte) (api.Digest, api.Errno) {
	c.puts++
	return c.Chunks.Put(p)
}

func (c *counted) Get(d api.Digest) ([]byte, api.Errno) {
	p, e := c.Chunks.Get(d)
	if len(p) > 0 {
		c.gets[p[0]]++
	}
	return p, e
}

// TestOverArena: files and a directory of them in layer 16's store (P17.7, P17.8, P17.9).
func TestOverArena(t *testing.T) {
	t.Parallel()
	under := overArena(t, 1500)
	s := &counted{Chunks: under, gets: map[byte]int{}}
	p := plain{}
	var l []api.Item
	for i, n := range []int{0, 1, 256, 257, 2049, 16385, 200000} {
		d := puts(t, s, 'F', text(n, i))
		p.put('F', text(n, i))
		l = append(l, fileItem(numbered(i), uint64(i+3), d))
	}
	d := putsDir(t, s, l...)
	p.put('D', plainItems(l))
	if under.Len() != len(p) || !slices.Equal(under.List(), slices.SortedFunc(maps.Keys(p), byBytes)) {
		t.Errorf("%d chunks, want %d", under.Len(), len(p))
	}
	again := putsDir(t, s, l...)
	for i, n := range []int{0, 1, 256, 257, 2049, 16385, 200000} {
		if puts(t, s, 'F', text(n, i)) != l[i].Object {
			t.Errorf("another digest")
		}
	}
	if again != d || under.Len() != len(p) {
		t.Errorf("what is there is put anew")
	}
	for _, x := range l {
		whole, _ := p.whole(x.Object)
		dice := dice(7)
		for range 200 {
			clear(s.gets)
			at, n := dice.below(len(whole)+1), dice.below(3000)
			got, e := merkle.Read(s, x.Object, uint64(at), n)
			if string(got) != whole[at:min(at+n, len(whole))] || e != api.OK {
				t.Errorf("Read of %d at %d of %d: %d bytes, error %d", n, at, len(whole), len(got), e)
			}
			if s.gets['L'] > n/256+2 || s.gets['N'] > 8*s.gets['L'] || s.gets['F'] != 1 {
				t.Errorf("Read of %d at %d of %d: %v chunks", n, at, len(whole), s.gets)
			}
		}
	}
	for _, x := range append(asks(d), diffs(d, d), diffs(d, putsDir(t, s, l[2:]...))) {
		p.put('D', plainItems(l[2:]))
		if got, w := x.real(s), x.told(p); !same(got, w) {
			t.Errorf("%s: %s, want %s", x.name, brief(got), brief(w))
		}
	}
}

func byBytes(a, b api.Digest) int { return slices.Compare(a[:], b[:]) }

// TestArenaFull: a store that has no room says so (P17.2, P17.4).
func TestArenaFull(t *testing.T) {
	for blocks := 2; blocks < 12; blocks++ {
		s := overArena(t, blocks)
		_, e := merkle.Put(s, 'F', []byte(text(5000, 1)))
		want(t, "Put", e, api.ErrFull)
		_, e = merkle.PutDir(s, many(60))
		want(t, "PutDir", e, api.ErrFull)
		_, e = merkle.GetDir(s, digest("a"))
		want(t, "GetDir", e, api.ErrNone)
	}
	_, e := merkle.Put((*arena.Store)(nil), 'F', nil)
	want(t, "Put into a nil arena", e, api.ErrNone) // a store all the same, and that is its error
}

// tree is a drawn directory, with directories in it, as an account keeps it: laid into a store only when it is asked for.
type tree struct {
	item  api.Item
	bytes string
	under []*tree
}

// drawTree is a directory to that depth; names are few, so that two trees have some alike.
func drawTree(dice *dice, depth int) *tree {
	out := &tree{item: dirItem("", 0, none)}
	for i := range 7 {
		x := &tree{item: fileItem([]string{"a", "a.", "b", "A", "a-b", "\xff", "bb"}[i], 0, none)}
		x.item.Inode.Mtime = uint64(dice.below(2))
		switch kind := dice.below(8); {
		case kind < 3:
			continue
		case kind == 3:
			x.item.Inode = inodeOf(api.KindLink, uint64(1+dice.below(3)))
		case kind < 6 && depth > 0:
			name := x.item.Name
			x = drawTree(dice, depth-1)
			x.item.Name = name
		default:
			x.bytes = text([]int{0, 5, 300, 2100}[dice.below(4)], dice.below(2))
		}
		out.under = append(out.under, x)
	}
	return out
}

// change draws a change of the tree, or of one in it.
func (x *tree) change(dice *dice) {
	for len(x.under) > 0 && dice.below(3) > 0 {
		x = x.under[dice.below(len(x.under))]
	}
	switch {
	case x.item.Inode.Kind == api.KindFile:
		x.bytes = text(len(x.bytes)+dice.below(2), dice.below(3))
	case x.item.Inode.Kind == api.KindLink:
		x.item.Inode.Ctime++
	case len(x.under) > 0 && dice.below(2) == 0:
		at := dice.below(len(x.under))
		x.under = slices.Delete(x.under, at, at+1)
	default:
		x.item.Inode.Mtime++
	}
}

// copied is the same tree, of its own.
func (x *tree) copied() *tree {
	out := &tree{x.item, x.bytes, nil}
	for _, each := range x.under {
		out.under = append(out.under, each.copied())
	}
	return out
}

// lay lays the tree, through those calls: its digest.
func (x *tree) lay(file func(p string) api.Digest, dir func(l []api.Item) api.Digest) api.Digest {
	if x.item.Inode.Kind == api.KindLink {
		return none
	}
	if x.item.Inode.Kind == api.KindFile {
		return file(x.bytes)
	}
	var l []api.Item
	for i, each := range x.under {
		item := each.item
		item.Cookie = uint64(2*i + 3)
		item.Object = each.lay(file, dir)
		l = append(l, item)
	}
	return dir(l)
}

// laidBoth is the tree in the store, by the package, and by the account.
func (x *tree) laidBoth(t *testing.T, s api.Chunks, p plain) api.Digest {
	t.Helper()
	d := x.lay(func(p string) api.Digest { return puts(t, s, 'F', p) }, func(l []api.Item) api.Digest { return putsDir(t, s, l...) })
	w := x.lay(func(b string) api.Digest { return p.put('F', b) }, func(l []api.Item) api.Digest { return p.put('D', plainItems(l)) })
	if d != w {
		t.Fatalf("a drawn tree has the digest %x, want %x", d, w)
	}
	return d
}

// TestDrawnTrees: trees of directories, and such as differ a little, against the account (P17.4 to P17.8).
func TestDrawnTrees(t *testing.T) {
	t.Parallel()
	for seed := range 120 {
		dice := dice(seed)
		s, p := newShelf(), plain{}
		x := drawTree(&dice, 4)
		y := x.copied()
		for range dice.below(5) {
			y.change(&dice)
		}
		z := drawTree(&dice, 3)
		var l []api.Digest
		for _, each := range []*tree{x, y, z} {
			l = append(l, each.laidBoth(t, s, p))
		}
		if !maps.Equal(s.plain, p) {
			t.Fatalf("drawn trees: %d chunks, want %d", len(s.plain), len(p))
		}
		for _, a := range l {
			agrees(t, s, asks(a)...)
			for _, b := range l {
				agrees(t, s, diffs(a, b))
			}
		}
		hurtAndAsk(t, s, l, &dice)
	}
}

// hurtAndAsk lets drawn chunks be lost, or be others, and asks for all of them.
func hurtAndAsk(t *testing.T, s *shelf, l []api.Digest, dice *dice) {
	t.Helper()
	all := slices.SortedFunc(maps.Keys(s.plain), byBytes)
	for range 12 {
		hurt := on(s.plain)
		for range 1 + dice.below(3) {
			d := all[dice.below(len(all))]
			switch f := forms(hurt.plain[d]); dice.below(3) {
			case 0:
				delete(hurt.plain, d)
			case 1:
				hurt.plain[d] = f[dice.below(len(f))]
			case 2:
				hurt.plain[d] = s.plain[all[dice.below(len(all))]]
			}
		}
		d := all[dice.below(len(all))]
		agrees(t, hurt, asks(d, span{0, 3000}, span{uint64(dice.below(3000)), dice.below(600)})...)
		agrees(t, hurt, asks(l[0])[1:]...)
		agrees(t, hurt, diffs(l[0], l[1]), diffs(l[0], l[2]), diffs(l[2], l[1]))
	}
}

// TestDrawnObjects: objects of drawn lengths and bytes, of which some pieces are alike, against the account (P17.1 to P17.3, P17.5, P17.7 to P17.9).
func TestDrawnObjects(t *testing.T) {
	t.Parallel()
	for seed := range 150 {
		dice := dice(seed + 1000)
		s := newShelf()
		var p string
		for range dice.below(40) {
			p += text([]int{256, 256, 512, 2048, dice.below(300)}[dice.below(5)], dice.below(3))
		}
		kind := byte("FD"[dice.below(2)])
		putsRight(t, kind, p)
		d := puts(t, s, kind, p)
		for range 30 {
			readsRight(t, s, d, p, uint64(dice.below(len(p)+20)), dice.below(len(p)+300))
		}
		agrees(t, s, asks(d)...)
		all := slices.SortedFunc(maps.Keys(s.plain), byBytes)
		for range 20 {
			hurt := on(s.plain)
			for range 1 + dice.below(3) {
				which := all[dice.below(len(all))]
				f := forms(hurt.plain[which])
				if hurt.plain[which] = f[dice.below(len(f))]; dice.below(2) == 0 {
					delete(hurt.plain, which)
				}
			}
			agrees(t, hurt, asks(d, span{0, len(p)}, span{uint64(dice.below(len(p) + 1)), dice.below(5000)})...)
		}
	}
}
