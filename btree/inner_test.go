package btree

import (
	"bytes"
	"fmt"
	"slices"
	"strings"
	"testing"

	"granary/api"
)

// shelf is a space in memory without bounds.
type shelf struct {
	blocks map[int][]byte
	made   int
}

func newShelf() *shelf { return &shelf{blocks: map[int][]byte{}} }

func (s *shelf) Read(b int) ([]byte, api.Errno) {
	if p, is := s.blocks[b]; is {
		return p, api.OK
	}
	return nil, api.ErrArg
}

func (s *shelf) Write(b int, p []byte) api.Errno {
	s.blocks[b] = bytes.Clone(p)
	return api.OK
}

func (s *shelf) Take() (int, api.Errno) {
	s.made++
	s.blocks[s.made] = nil
	return s.made, api.OK
}

func (s *shelf) Give(b int) api.Errno {
	delete(s.blocks, b)
	return api.OK
}

// leaf is a leaf with these pairs, each a key, = and its value.
func leaf(pairs ...string) node {
	n := node{}
	for _, x := range pairs {
		key, value, _ := strings.Cut(x, "=")
		n.entries = append(n.entries, entry{key: []byte(key), value: []byte(value)})
	}
	return n
}

// fork is a node with children in these blocks; each but the first has a key.
func fork(level int, blocks []int, keys ...string) node {
	n := node{level: level}
	for i, b := range blocks {
		x := entry{child: b}
		if i > 0 {
			x.key = []byte(keys[i-1])
		}
		n.entries = append(n.entries, x)
	}
	return n
}

// TestLaidAndRead: what is laid is read back, whatever stands in it.
func TestLaidAndRead(t *testing.T) {
	long := strings.Repeat("k", api.MaxKey) + "=" + strings.Repeat("v", api.MaxValue)
	for _, n := range []node{
		{}, leaf("a=1"), leaf("a=", "b=2", "ba=3"), leaf("a"+long[1:], "b"+long[1:]), leaf("\x00=\x00", "\xff=\xff"),
		fork(1, []int{-1 << 63, 1<<63 - 1}, "m"), fork(255, []int{-1, 0, 1}, strings.Repeat("a", 40), strings.Repeat("b", 40)),
	} {
		p := n.laid()
		if len(p) != api.BlockBytes {
			t.Fatalf("a block of %d bytes", len(p))
		}
		got, ok := read(p)
		if !ok || got.level != n.level || fmt.Sprint(got.entries) != fmt.Sprint(n.entries) {
			t.Errorf("%+v is read back as %+v, %t", n, got, ok)
		}
	}
}

// TestNoNodes: what is no node, or can't stand where it does, is ErrNode.
func TestNoNodes(t *testing.T) {
	bytesOf := func(n node, changes ...int) []byte {
		p := n.laid()
		for i := 0; i < len(changes); i += 2 {
			p[changes[i]] = byte(changes[i+1])
		}
		return p
	}
	good := leaf("b=1", "c=2")
	for name, p := range map[string][]byte{
		"no bytes": nil, "too few bytes": good.laid()[:383], "too many bytes": append(good.laid(), 0), "zeros": make([]byte, 384),
		"another mark": bytesOf(good, 0, 'M'), "one entry less": bytesOf(good, 2, 1), "one entry more": bytesOf(good, 2, 3),
		"255 entries": bytesOf(good, 2, 255), "a byte behind all": bytesOf(good, 383, 1), "an empty key": leaf("=1", "c=2").laid(), "no length of a key": bytesOf(good, 3, 0),
		"falling keys": leaf("c=1", "b=2").laid(), "a key twice": leaf("b=1", "b=2").laid(),
		"a key that is too long": leaf(strings.Repeat("k", 41) + "=").laid(), "a value that is too long": leaf("k=" + strings.Repeat("v", 97)).laid(),
		"the first child with a key": bytesOf(fork(1, []int{7, 8}, "m"), 3, 1),
		"a child alone":              fork(1, []int{7}).laid(), "no child": node{level: 1}.laid(),
		"children with falling keys": fork(1, []int{7, 8, 9}, "m", "l").laid(), "an empty key between children": fork(1, []int{7, 8}, "").laid(),
		"a length that leads behind the block": bytesOf(fork(1, []int{7, 8}, "m"), 2, 60),
	} {
		s := newShelf()
		s.blocks[1] = p
		b := Open(s, 1)
		if v, is := b.Get([]byte("b")); is || v != nil || b.Why() != api.ErrNode {
			t.Errorf("%s: %q %t, error %d", name, v, is, b.Why())
		}
		if l, e := Blocks(s, 1); len(l) != 0 || e != api.ErrNode {
			t.Errorf("%s: Blocks %v, error %d", name, l, e)
		}
	}
}

// TestWrongPlaces: nodes that do not belong where their parent has them are ErrNode.
func TestWrongPlaces(t *testing.T) {
	for name, l := range map[string][]node{
		"an empty leaf":                 {leaf("a=1"), leaf()},
		"a key below its border":        {leaf("a=1"), leaf("l=2")},
		"a key at the next border":      {leaf("m=1"), leaf("n=2")},
		"a node of the parent's level":  {leaf("a=1"), fork(1, []int{1, 2}, "x")},
		"a node of a higher level":      {leaf("a=1"), fork(2, []int{1, 2}, "x")},
		"the same leaf at both borders": {leaf("a=1", "x=2"), leaf("a=1", "x=2")},
	} {
		s := newShelf()
		s.blocks[1], s.blocks[2], s.blocks[3] = l[0].laid(), l[1].laid(), fork(1, []int{1, 2}, "m").laid()
		b := Open(s, 3)
		if n := b.Len(); n != 0 || b.Why() != api.ErrNode {
			t.Errorf("%s: Len %d, error %d", name, n, b.Why())
		}
	}
}

// calls makes every call on a root, and tells the errors that there were. That it comes back at all is what is looked at.
func calls(s api.Space, root int) []api.Errno {
	var out []api.Errno
	for _, call := range []func(b *Batch){
		func(b *Batch) { b.Get([]byte("k010")) },
		func(b *Batch) { b.Put([]byte("k011"), bytes.Repeat([]byte{1}, 96)) },
		func(b *Batch) { b.Drop([]byte("k010")) },
		func(b *Batch) { b.Range([]byte("k"), []byte("l"), 1<<63-1) },
		func(b *Batch) { b.Next([]byte("k010")) },
		func(b *Batch) { b.Last([]byte("k010")) },
		func(b *Batch) { b.Len() },
	} {
		b := Open(s, root)
		call(b)
		out = append(out, b.Why(), b.Abort())
	}
	_, e := Blocks(s, root)
	_, f := Diff(s, root, root)
	return append(out, e, f)
}

// TestRound: nodes that lead to themselves, to each other, or by very many ways to one: each call ends.
func TestRound(t *testing.T) {
	s := newShelf()
	s.blocks[1] = fork(1, []int{1, 1}, "m").laid()
	s.blocks[2] = fork(2, []int{3, 3}, "m").laid()
	s.blocks[3] = fork(1, []int{2, 2}, "f").laid()
	for root := 1; root <= 3; root++ {
		if l := calls(s, root); !slices.Contains(l, api.ErrNode) {
			t.Errorf("%d: %v", root, l)
		}
	}
	for _, keys := range [][]string{{"m", "n", "o"}, {"k", "k010", "k0101"}, {"k01", "k02", "k03"}} {
		s.blocks[1000] = leaf(keys[0] + "=1").laid()
		for level := 1; level <= 255; level++ {
			b := 1000 + level
			s.blocks[b] = fork(level, []int{b - 1, b - 1, b - 1, b - 1}, keys...).laid()
		}
		if l := calls(s, 1255); !slices.Contains(l, api.ErrNode) {
			t.Errorf("%v: %v", keys, l)
		}
	}
}

// TestHurt: a tree of which a block is hurt, anyhow: each call ends, and Abort gives back what it took.
func TestHurt(t *testing.T) {
	s := newShelf()
	root, _ := Empty(s)
	b := Open(s, root)
	for i := range 60 {
		b.Put(fmt.Appendf(nil, "k%03d", i), bytes.Repeat([]byte{7}, i))
	}
	all, _ := Blocks(s, b.Root())
	root = b.Root()
	many := len(s.blocks)
	seen := map[api.Errno]int{}
	for _, block := range all {
		old := s.blocks[block]
		for at := range api.BlockBytes {
			for _, x := range []byte{1, 0x80, 0xff} {
				p := bytes.Clone(old)
				p[at] ^= x
				s.blocks[block] = p
				for _, e := range calls(s, root) {
					seen[e]++
				}
				if len(s.blocks) != many {
					t.Fatalf("%d blocks are taken, and there were %d", len(s.blocks), many)
				}
			}
		}
		s.blocks[block] = old
	}
	if seen[api.OK] == 0 || seen[api.ErrNode] == 0 || seen[api.ErrArg] == 0 {
		t.Errorf("the errors were %v", seen)
	}
}

// sturdy looks at all nodes of a tree: each but the root is full enough, and has children enough, that no tree can be deep (P11.13).
func sturdy(t *testing.T, s api.Space, at place) int {
	t.Helper()
	n, e := load(s, at)
	if e != api.OK {
		t.Fatalf("error %d", e)
	}
	size := n.size()
	if size > roomBytes || at.level != anyLevel && size < leastBytes {
		t.Fatalf("a node of %d bytes", size)
	}
	if n.level == 0 {
		return 1
	}
	if at.level != anyLevel && len(n.entries) < 4 {
		t.Fatalf("a node of %d children", len(n.entries))
	}
	depth := 0
	for i := range n.entries {
		depth = sturdy(t, s, n.child(i, at))
	}
	return depth + 1
}

// TestSturdy: trees that grow and shrink with keys and values of lengths as unlike as can be; all nodes stay as full as they must (P11.13).
func TestSturdy(t *testing.T) {
	drawn := uint64(1)
	below := func(n int) int {
		drawn = drawn*6364136223846793005 + 1442695040888963407
		return int(drawn >> 33 % uint64(n))
	}
	s := newShelf()
	root, _ := Empty(s)
	deepest := 0
	for round := range 80 {
		b := Open(s, root)
		for range 600 {
			key := fmt.Appendf(nil, "%s%04d", strings.Repeat("k", 36*below(2)), below(4000))
			if below(10) < 9-round%9 {
				b.Put(key, bytes.Repeat([]byte{1}, 96*below(2)))
			} else {
				b.Drop(key)
			}
		}
		if round%10 == 9 {
			for _, p := range b.Range([]byte("k"), []byte("l"), 700) {
				b.Drop(p.Key)
			}
		}
		if b.Why() != api.OK {
			t.Fatalf("error %d", b.Why())
		}
		for _, x := range b.Gone() {
			s.Give(x)
		}
		root = b.Root()
		deepest = max(deepest, sturdy(t, s, top(root)))
	}
	if deepest < 4 {
		t.Errorf("the deepest tree had %d levels", deepest)
	}
}

// TestCut: whatever sizes the entries of a node have, both halves have room in a block, and are full enough.
func TestCut(t *testing.T) {
	for first := 1; first <= 6; first++ {
		for _, size := range []int{1, 2, 30, 60, 95, 96} {
			for _, key := range []int{1, 20, 40} {
				n := node{}
				for i := 0; n.size() <= roomBytes; i++ {
					x := entry{key: bytes.Repeat([]byte{byte('a' + i%200)}, key), value: make([]byte, size)}
					if i < first {
						x.value = make([]byte, 96)
					}
					n.entries = append(n.entries, x)
				}
				halves(t, n)
				slices.Reverse(n.entries)
				halves(t, n)
			}
		}
	}
	for first := range 40 {
		for _, key := range []int{1, 2, 10, 39, 40} {
			n := node{level: 3}
			for n.size() <= roomBytes {
				x := entry{key: make([]byte, key), child: 7}
				if len(n.entries) < first {
					x.key = make([]byte, 41-key)
				}
				n.entries = append(n.entries, x)
			}
			halves(t, n)
			slices.Reverse(n.entries)
			if n.size() > roomBytes { // another key is not laid then
				halves(t, n)
			}
		}
	}
}

// TestBorder: between two leaves it is as short as can be, between other nodes what the right one begins with.
func TestBorder(t *testing.T) {
	for _, c := range [][3]string{
		{"a", "b", "b"}, {"a", "bcd", "b"}, {"abc", "abd", "abd"}, {"ab", "abc", "abc"}, {"ab", "abcd", "abc"},
		{"abz", "acd", "ac"}, {"a", "a\x00b", "a\x00"}, {"\x00", "\xff\xff", "\xff"},
	} {
		if got := border(leaf("A=", c[0]+"="), leaf(c[1]+"=", "\xff\xff\xff=")); string(got) != c[2] {
			t.Errorf("between %q and %q: %q, want %q", c[0], c[1], got, c[2])
		}
		right := fork(2, []int{1, 2}, "\xff\xff\xff")
		right.entries[0].key = []byte(c[1])
		if got := border(fork(2, []int{3, 4}, c[0]), right); string(got) != c[1] {
			t.Errorf("between nodes with %q and %q: %q", c[0], c[1], got)
		}
	}
}

// halves: the node is cut in two good ones.
func halves(t *testing.T, n node) {
	t.Helper()
	l := n.parts()
	if len(l) != 2 || len(l[0].entries)+len(l[1].entries) != len(n.entries) {
		t.Fatalf("%d parts", len(l))
	}
	for _, x := range l {
		if x.level != n.level || x.size() > roomBytes || x.size() < leastBytes {
			t.Errorf("a half of %d bytes, of %d", x.size(), n.size())
		}
	}
	l[0].entries = append(l[0].entries, entry{key: []byte("other")})
	if !bytes.Equal(l[1].entries[0].key, n.entries[len(l[0].entries)-1].key) {
		t.Errorf("the halves share memory")
	}
}
