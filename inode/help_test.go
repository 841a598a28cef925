package inode_test

import (
	"bytes"
	"math"
	"strings"
	"testing"

	"granary/api"
	"granary/inode"
)

// The greatest values of the fields.
const (
	top32 = math.MaxUint32
	top64 = math.MaxUint64
)

// kinds is all that a Kind is tried with: those that there are, their neighbours, the ends, and such as are a kind's bits in the lowest four bytes.
func kinds() []int {
	out := []int{math.MinInt, math.MaxInt, 1<<32 + 1, 1<<32 + 2, 1<<32 + 5, -1<<32 + 1}
	for kind := -1; kind <= 8; kind++ {
		out = append(out, kind)
	}
	return out
}

// someFile is a file all of whose fields are another, and in each byte.
func someFile() api.Inode {
	return api.Inode{
		Number: 0x0102030405060708, Generation: 0x11121314, Kind: api.KindFile, Mode: 0o7654, Links: 0x4321, Uid: 0x21222324, Gid: 0x31323334,
		Size: 0x0abcde, Blocks: 0x4142434445464748, Atime: 0x5152535455565758, Mtime: 0x6162636465666768, Ctime: 0x7172737475767778, Root: 0x8182838485868788,
	}
}

// someDir is a directory, likewise.
func someDir() api.Inode {
	x := someFile()
	x.Kind = api.KindDir
	return x
}

// someLink is a link with that target.
func someLink(target string) api.Inode {
	x := someFile()
	x.Kind, x.Size, x.Blocks, x.Root, x.Target = api.KindLink, uint64(len(target)), 0, 0, target
	return x
}

// each is one inode of each kind.
func each() []api.Inode { return []api.Inode{someFile(), someDir(), someLink("to there")} }

// ends is inodes that Check takes, with fields at their ends.
func ends() []api.Inode {
	most := api.Inode{
		Number: top64, Generation: top32, Kind: api.KindFile, Mode: 4095, Links: 32000, Uid: top32, Gid: top32,
		Size: 1048576, Blocks: top64, Atime: top64, Mtime: top64, Ctime: top64, Root: top64,
	}
	mostDir := most
	mostDir.Kind = api.KindDir
	out := append(each(), most, mostDir,
		api.Inode{Number: 1, Generation: 1, Kind: api.KindFile},
		api.Inode{Number: 1, Generation: 1, Kind: api.KindDir},
		api.Inode{Number: 1, Generation: 1, Kind: api.KindLink, Size: 1, Target: "x"})
	for _, n := range []int{1, 2, 3, 4, 5, 6, 7, 8, 251, 252, 253, 254, 255} {
		out = append(out, someLink(strings.Repeat("t", n)), someLink(strings.Repeat("\x00", n)), someLink(strings.Repeat("\xff", n)))
	}
	return out
}

// bad is inodes that Check refuses: of each kind, with each fault.
func bad() []api.Inode {
	var out []api.Inode
	for _, spoilt := range spoilers() {
		for _, x := range each() {
			spoilt.bring(&x)
			out = append(out, x)
		}
	}
	return out
}

// spoiler brings a fault to an inode of the kind that can have it.
type spoiler struct {
	name  string
	bring func(x *api.Inode)
}

// spoilers is one for each of P12.1's faults, in its order. They change as little as they can, so that two faults stay together where that can be.
func spoilers() []spoiler {
	toLink := func(x *api.Inode) {
		if x.Kind != api.KindLink {
			*x = someLink("ab")
		}
	}
	return []spoiler{
		{"Number 0", func(x *api.Inode) { x.Number = 0 }},
		{"Generation 0", func(x *api.Inode) { x.Generation = 0 }},
		{"no Kind", func(x *api.Inode) { x.Kind = 3 }},
		{"Mode", func(x *api.Inode) { x.Mode = 4096 }},
		{"Links", func(x *api.Inode) { x.Links = 32001 }},
		{"long Target", func(x *api.Inode) { x.Target = strings.Repeat("t", 256) }},
		{"Size", func(x *api.Inode) { x.Size = 1048577 }},
		{"a Target of no link", func(x *api.Inode) { x.Kind, x.Target = api.KindFile, "ab" }},
		{"no Target", func(x *api.Inode) { toLink(x); x.Size, x.Target = 0, "" }},
		{"another Size", func(x *api.Inode) { toLink(x); x.Size++ }},
		{"a link's Root", func(x *api.Inode) { toLink(x); x.Root = 1 }},
		{"a link's Blocks", func(x *api.Inode) { toLink(x); x.Blocks = 1 }},
	}
}

// want: the error, and no other.
func want(t *testing.T, name string, got, e api.Errno) {
	t.Helper()
	if got != e {
		t.Errorf("%s: error %d, want %d", name, got, e)
	}
}

// puts: Put of the inode is these bytes and OK, or none and Check's error.
func puts(t *testing.T, x api.Inode) {
	t.Helper()
	got, e := inode.Put(x)
	why := plainCheck(x)
	if e != why || why != api.OK && got != nil || why == api.OK && !bytes.Equal(got, plainBytes(x)) {
		t.Errorf("Put of %+v: %x, error %d, want error %d", x, got, e, why)
	}
}

// gets: Get of the bytes is as the chapter's words say.
func gets(t *testing.T, b []byte) {
	t.Helper()
	x, e := inode.Get(b)
	if y, why := plainGet(b); x != y || e != why {
		t.Errorf("Get of %x: %+v, error %d, want %+v, error %d", b, x, e, y, why)
	}
}

// getsNone: Get of the bytes is that error.
func getsNone(t *testing.T, name string, b []byte, e api.Errno) {
	t.Helper()
	if x, why := inode.Get(b); why != e || x != (api.Inode{}) {
		t.Errorf("Get, %s, of %x: %+v, error %d, want error %d", name, b, x, why, e)
	}
}

// applies: Apply is as the chapter's words say.
func applies(t *testing.T, x api.Inode, s api.SetAttr, now uint64) {
	t.Helper()
	got, sized, e := inode.Apply(x, s, now)
	y, other, why := plainApply(x, s, now)
	if got != y || sized != other || e != why {
		t.Errorf("Apply of %+v at %d to %+v: %+v, %v, error %d, want %+v, %v, error %d", s, now, x, got, sized, e, y, other, why)
	}
}

// links: Linked is as the chapter's words say.
func links(t *testing.T, x api.Inode, by int, now uint64) {
	t.Helper()
	got, e := inode.Linked(x, by, now)
	if y, why := plainLinked(x, by, now); got != y || e != why {
		t.Errorf("Linked of %+v by %d: %+v, error %d, want %+v, error %d", x, by, got, e, y, why)
	}
}

// sizes: Sized is as the chapter's words say.
func sizes(t *testing.T, x api.Inode, size, now uint64) {
	t.Helper()
	got, e := inode.Sized(x, size, now)
	if y, why := plainSized(x, size, now); got != y || e != why {
		t.Errorf("Sized of %+v to %d: %+v, error %d, want %+v, error %d", x, size, got, e, y, why)
	}
}

// grants: Access is as the chapter's words say.
func grants(t *testing.T, x api.Inode, uid uint32, gids []uint32, bits uint32) {
	t.Helper()
	if got, y := inode.Access(x, uid, gids, bits), plainAccess(x, uid, gids, bits); got != y {
		t.Errorf("Access of %+v, uid %d, gids %d, want %d: %d, not %d", x, uid, gids, bits, got, y)
	}
}

// handles: GetHandle of the bytes is as the chapter's words say.
func handles(t *testing.T, b []byte) {
	t.Helper()
	h, e := inode.GetHandle(b)
	if y, why := plainGetHandle(b); h != y || e != why {
		t.Errorf("GetHandle of %x: %+v, error %d, want %+v, error %d", b, h, e, y, why)
	}
}

// dice is numbers that look thrown, the same ones each time.
type dice uint64

// below is the next number, of 0 to n - 1.
func (d *dice) below(n int) int {
	*d = *d*6364136223846793005 + 1442695040888963407
	return int(uint64(*d) >> 33 % uint64(n))
}

// long is a number of any size, the ends among them.
func (d *dice) long() uint64 {
	n := uint64(d.below(1<<31))<<33 ^ uint64(d.below(1<<31))<<11 ^ uint64(d.below(1<<11))
	switch d.below(4) {
	case 0:
		return n >> d.below(64)
	case 1:
		return []uint64{0, 1, top64, 1 << 32, 1048576, 1048577}[d.below(6)]
	}
	return n
}

func (d *dice) word() uint32 { return uint32(d.long()) }

// bytes is so many of them.
func (d *dice) bytes(n int) []byte {
	out := make([]byte, n)
	for i := range out {
		out[i] = byte(d.below(256))
	}
	return out
}

// inode is one that Check takes.
func (d *dice) inode() api.Inode {
	x := api.Inode{
		Number: max(1, d.long()), Generation: max(1, d.word()), Kind: []int{1, 2, 5}[d.below(3)], Mode: d.word() % 4096, Links: d.word() % 32001,
		Uid: d.word(), Gid: d.word(), Size: d.long() % 1048577, Blocks: d.long(), Atime: d.long(), Mtime: d.long(), Ctime: d.long(), Root: d.long(),
	}
	if x.Kind == api.KindLink {
		x.Target = string(d.bytes(1 + d.below(255)))
		x.Size, x.Blocks, x.Root = uint64(len(x.Target)), 0, 0
	}
	return x
}

// any is an inode that Check takes, or one with some faults.
func (d *dice) any() api.Inode {
	x := d.inode()
	all := spoilers()
	for d.below(3) == 0 {
		all[d.below(len(all))].bring(&x)
	}
	return x
}

// set is what of an inode is to be set, and that may often be.
func (d *dice) set() api.SetAttr {
	s := api.SetAttr{Has: d.below(256), Mode: d.word() % 4096, Uid: d.word(), Gid: d.word(), Size: d.long() % 1048577, Atime: d.long(), Mtime: d.long()}
	switch d.below(12) {
	case 0:
		s.Has |= 1 << (8 + d.below(56))
	case 1:
		s.Mode = 4096
	case 2:
		s.Size = 1048577
	}
	return s
}

// spare is a list with room behind it that is full of x.
func spare[T any](l []T, x T) []T {
	out := append(make([]T, 0, len(l)+50), l...)
	for range 50 {
		out = append(out, x)
	}
	return out[:len(l)]
}

// spoil writes over all of a list, its spare room too.
func spoil[T any](l []T, with T) {
	l = l[:cap(l)]
	for i := range l {
		l[i] = with
	}
}
