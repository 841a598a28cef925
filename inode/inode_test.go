package inode_test

import (
	"math"
	"strings"
	"testing"

	"granary/api"
	"granary/inode"
)

// TestCheckTakes: Check takes inodes of each kind, with fields at their ends (P12.1).
func TestCheckTakes(t *testing.T) {
	for _, x := range ends() {
		want(t, "Check", inode.Check(x), api.OK)
		puts(t, x)
	}
	empty := api.Inode{}
	want(t, "Check of the zero Inode", inode.Check(empty), api.ErrInode)
}

// alone is an inode with each fault of P12.1's list, in its order, and no other.
func alone() []api.Inode {
	var out []api.Inode
	with := func(x api.Inode, change func(x *api.Inode)) {
		change(&x)
		out = append(out, x)
	}
	with(someFile(), func(x *api.Inode) { x.Number = 0 })
	with(someDir(), func(x *api.Inode) { x.Generation = 0 })
	with(someFile(), func(x *api.Inode) { x.Kind = 3 })
	with(someLink("ab"), func(x *api.Inode) { x.Mode = 4096 })
	with(someDir(), func(x *api.Inode) { x.Links = 32001 })
	with(someLink(strings.Repeat("t", 256)), func(x *api.Inode) {})
	with(someFile(), func(x *api.Inode) { x.Size = 1048577 })
	with(someDir(), func(x *api.Inode) { x.Target = "a" })
	with(someLink(""), func(x *api.Inode) {})
	with(someLink("ab"), func(x *api.Inode) { x.Size = 3 })
	with(someLink("ab"), func(x *api.Inode) { x.Root = 1 })
	with(someLink("ab"), func(x *api.Inode) { x.Blocks = 1 })
	return out
}

// TestCheckFault: each fault alone (P12.1, P12.2).
func TestCheckFault(t *testing.T) {
	for i, x := range alone() {
		for k, f := range faults() {
			if f.is(x) != (i == k) {
				t.Fatalf("the inode %d, %+v: fault %s", i, x, f.name)
			}
		}
		want(t, faults()[i].name, inode.Check(x), faults()[i].err)
		puts(t, x)
	}
}

// TestCheckFaults: of every two faults the first is told, and of drawn ones (P12.1, P12.2).
func TestCheckFaults(t *testing.T) {
	together := 0
	for i, a := range spoilers() {
		for k, b := range spoilers() {
			for _, x := range each() {
				a.bring(&x)
				b.bring(&x)
				if faults()[i].is(x) && faults()[k].is(x) {
					together++
				}
				want(t, a.name+" and "+b.name, inode.Check(x), plainCheck(x))
				puts(t, x)
			}
		}
	}
	if together < 200 {
		t.Errorf("only %d had both faults", together)
	}
	dice := dice(1)
	for range 20000 {
		x := dice.any()
		want(t, "drawn", inode.Check(x), plainCheck(x))
		puts(t, x)
	}
}

// TestCheckOrder: the errors in their order, told by hand (P12.1).
func TestCheckOrder(t *testing.T) {
	x := api.Inode{Kind: 9, Mode: 4096, Links: 32001, Size: 1048577, Target: strings.Repeat("t", 256), Root: 1, Blocks: 1}
	want(t, "all faults", inode.Check(x), api.ErrInode)
	x.Number, x.Generation, x.Mode = 1, 1, 4095
	want(t, "no Kind", inode.Check(x), api.ErrInode)
	x.Kind, x.Mode = api.KindLink, 4096
	want(t, "Mode", inode.Check(x), api.ErrInode)
	x.Mode, x.Number = 4095, 0
	want(t, "Number", inode.Check(x), api.ErrInode)
	x.Number, x.Generation = 1, 0
	want(t, "Generation", inode.Check(x), api.ErrInode)
	x.Generation = 1
	want(t, "Links", inode.Check(x), api.ErrLinks)
	x.Links = 32000
	want(t, "Target", inode.Check(x), api.ErrLong)
	x.Target = strings.Repeat("t", 255)
	want(t, "Size", inode.Check(x), api.ErrRange)
	x.Size = 1048576
	want(t, "a Size that is not the target's", inode.Check(x), api.ErrInode)
	x.Size = 255
	want(t, "Root and Blocks", inode.Check(x), api.ErrInode)
	x.Root = 0
	want(t, "Blocks", inode.Check(x), api.ErrInode)
	x.Root, x.Blocks = 1, 0
	want(t, "Root", inode.Check(x), api.ErrInode)
	x.Root = 0
	want(t, "no fault", inode.Check(x), api.OK)
}

// TestCheckGrid: all fields at and beyond their ends, each with each (P12.1, P12.2, P12.4).
func TestCheckGrid(t *testing.T) {
	texts := []string{"", "x", strings.Repeat("t", 255), strings.Repeat("t", 256)}
	x := api.Inode{Uid: 7, Gid: 8, Atime: 9, Mtime: 10, Ctime: 11}
	over := func(n int, do func(i int)) {
		for i := range n {
			do(i)
		}
	}
	over(4, func(i int) {
		x.Number, x.Generation = uint64(i%2), uint32(i/2)
		for _, x.Kind = range kinds() {
			for _, x.Mode = range []uint32{0, 4095, 4096, top32} {
				for _, x.Links = range []uint32{0, 32000, 32001, top32} {
					for _, x.Target = range texts {
						for _, x.Size = range []uint64{0, 1, 255, 256, 1048576, 1048577, top64} {
							over(4, func(i int) {
								x.Root, x.Blocks = uint64(i%2), uint64(i/2)
								want(t, "Check", inode.Check(x), plainCheck(x))
								puts(t, x)
							})
						}
					}
				}
			}
		}
	})
}

// TestCheckKinds: the kinds are 1, 2 and 5, and no other number (P12.1).
func TestCheckKinds(t *testing.T) {
	for _, kind := range kinds() {
		x := someFile()
		x.Kind = kind
		e := api.ErrInode
		if kind == 1 || kind == 2 {
			e = api.OK
		}
		want(t, "Check", inode.Check(x), e)
		x = someLink("ab")
		x.Kind = kind
		e = api.ErrInode
		if kind == 5 {
			e = api.OK
		}
		want(t, "Check of a link", inode.Check(x), e)
	}
}

// TestNew: P12.3 of each kind, of numbers and generations that may not be, of modes with more bits.
func TestNew(t *testing.T) {
	modes := []uint32{0, 1, 0o755, 4095, 4096, 4097, 0o40755, 0o100644, 0o120777, 1 << 31, top32}
	for _, kind := range kinds() {
		for _, number := range []uint64{0, 1, 7, 1 << 32, top64} {
			for _, generation := range []uint32{0, 1, top32} {
				for _, mode := range modes {
					x, e := inode.New(number, generation, kind, mode, 11, 12, 13)
					y, why := api.Inode{}, api.ErrInode
					if number != 0 && generation != 0 && (kind == 1 || kind == 2) {
						y = api.Inode{
							Number: number, Generation: generation, Kind: kind, Mode: mode % 4096, Links: uint32(kind),
							Uid: 11, Gid: 12, Atime: 13, Mtime: 13, Ctime: 13,
						}
						why = api.OK
						want(t, "Check of New", inode.Check(x), api.OK)
					}
					if x != y || e != why {
						t.Errorf("New(%d, %d, %d, %d): %+v, error %d", number, generation, kind, mode, x, e)
					}
				}
			}
		}
	}
}

// TestNewFields: uid, gid and now of any size stand where they belong (P12.3).
func TestNewFields(t *testing.T) {
	for _, n := range []uint64{0, 1, 1 << 31, top32} {
		for _, now := range []uint64{0, 1, 1 << 63, top64} {
			x, e := inode.New(3, 4, api.KindFile, 0o644, uint32(n), uint32(top32-n), now)
			y := api.Inode{Number: 3, Generation: 4, Kind: 1, Mode: 420, Links: 1, Uid: uint32(n), Gid: uint32(top32 - n), Atime: now, Mtime: now, Ctime: now}
			if x != y || e != api.OK {
				t.Errorf("New: %+v, error %d, want %+v", x, e, y)
			}
		}
	}
}

// TestAttributes: P12.4 of each kind and of fields at their ends.
func TestAttributes(t *testing.T) {
	x := someFile()
	x.Blocks = 3
	got, e := inode.Attributes(x, 9)
	y := api.Attr{
		Type: 1, Mode: 0o7654, Links: 0x4321, Uid: 0x21222324, Gid: 0x31323334, Size: 0x0abcde, Used: 3 * 384, Fsid: 9, Fileid: 0x0102030405060708,
		Atime: 0x5152535455565758, Mtime: 0x6162636465666768, Ctime: 0x7172737475767778,
	}
	if got != y || e != api.OK {
		t.Errorf("Attributes: %+v, error %d, want %+v", got, e, y)
	}
	for _, x := range ends() {
		for _, fs := range []uint32{0, 1, top32} {
			x.Blocks = 0
			a, e := inode.Attributes(x, fs)
			y := api.Attr{
				Type: x.Kind, Mode: x.Mode, Links: x.Links, Uid: x.Uid, Gid: x.Gid, Size: x.Size, Fsid: uint64(fs), Fileid: x.Number,
				Atime: x.Atime, Mtime: x.Mtime, Ctime: x.Ctime,
			}
			if a != y || e != api.OK {
				t.Errorf("Attributes of %+v: %+v, error %d, want %+v", x, a, e, y)
			}
		}
	}
}

// TestAttributesBlocks: Blocks up to 2^54 are told in bytes; more are ErrRange, behind Check's errors (P12.4).
func TestAttributesBlocks(t *testing.T) {
	for _, x := range []api.Inode{someFile(), someDir()} {
		for _, blocks := range []uint64{0, 1, 2, 1<<54 - 1, 1 << 54} {
			x.Blocks = blocks
			a, e := inode.Attributes(x, 0)
			if e != api.OK || a.Used/384 != blocks || a.Used%384 != 0 {
				t.Errorf("%d blocks: %d, error %d", blocks, a.Used, e)
			}
		}
		for _, blocks := range []uint64{1<<54 + 1, 1 << 55, math.MaxUint64/384 + 1, 1 << 63, top64} {
			x.Blocks = blocks
			if a, e := inode.Attributes(x, 0); e != api.ErrRange || a != (api.Attr{}) {
				t.Errorf("%d blocks: %+v, error %d", blocks, a, e)
			}
		}
	}
	for _, x := range bad() {
		for _, blocks := range []uint64{x.Blocks, 1<<54 + 1} {
			x.Blocks = blocks
			if a, e := inode.Attributes(x, 5); e != plainCheck(x) || e == api.OK || a != (api.Attr{}) {
				t.Errorf("Attributes of %+v: %+v, error %d", x, a, e)
			}
		}
	}
}

// TestExampleNew: the document's first example.
func TestExampleNew(t *testing.T) {
	x, e := inode.New(7, 1, api.KindDir, 0o40755, 0, 0, 5)
	if e != api.OK || x != (api.Inode{Number: 7, Generation: 1, Kind: 2, Mode: 0o755, Links: 2, Atime: 5, Mtime: 5, Ctime: 5}) {
		t.Errorf("New: %+v, error %d", x, e)
	}
}
