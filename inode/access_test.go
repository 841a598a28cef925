package inode_test

import (
	"slices"
	"testing"

	"granary/api"
	"granary/inode"
)

// owned is inodes of each kind that belong to the uid 1001 and the gid 2002, with that mode.
func owned(mode uint32) []api.Inode {
	out := each()
	for i := range out {
		out[i].Mode, out[i].Uid, out[i].Gid = mode, 1001, 2002
	}
	return out
}

// caller is who asks.
type caller struct {
	uid  uint32
	gids []uint32
}

// otherGids is so many groups, none of them 2002.
func otherGids(n int) []uint32 {
	out := make([]uint32, n)
	for i := range out {
		out[i] = uint32(3000 + i)
	}
	return out
}

// callers is the owner, members by each place among their groups, others, and uid 0.
func callers() []caller {
	out := []caller{
		{1001, nil}, {1001, []uint32{2002}}, {1002, nil}, {1002, otherGids(16)}, {1002, otherGids(40)}, {2002, []uint32{1001}},
		{0, nil}, {0, []uint32{2002}}, {top32, nil}, {1002, []uint32{0}}, {1002, []uint32{2002, 2002}}, {1002, []uint32{2002}},
	}
	for at := range 20 { // the 17th and those behind it have no part
		gids := otherGids(20)
		gids[at] = 2002
		out = append(out, caller{1002, gids}, caller{1002, gids[:at+1]})
	}
	return out
}

// TestAccess: every mode's lowest nine bits, each kind, each caller, each want (P12.7).
func TestAccess(t *testing.T) {
	all := callers()
	for mode := range uint32(512) {
		for _, x := range owned(mode) {
			for _, who := range all {
				whole := plainAccess(x, who.uid, who.gids, 63)
				for bits := range uint32(64) {
					if got := inode.Access(x, who.uid, who.gids, bits); got != whole&bits {
						t.Fatalf("Access of kind %d, mode %o, %v, want %d: %d, not %d", x.Kind, mode, who, bits, got, whole&bits)
					}
				}
			}
		}
	}
}

// TestAccessHigher: the bits of a mode above the lowest nine have no part, and nothing beyond the six bits of want is granted (P12.7).
func TestAccessHigher(t *testing.T) {
	for mode := range uint32(4096) {
		for _, x := range owned(mode) {
			for _, who := range callers()[:12] {
				for _, bits := range []uint32{63, top32, 64, 1 << 31, top32 &^ 63, 128 + 5} {
					grants(t, x, who.uid, who.gids, bits)
				}
			}
		}
	}
}

// TestAccessOwners: the first of owner, group and others that fits tells, also where it grants less (P12.7).
func TestAccessOwners(t *testing.T) {
	for _, c := range []struct {
		mode uint32
		who  caller
		want uint32
	}{
		{0o077, caller{1001, []uint32{2002}}, 0}, {0o007, caller{1002, []uint32{2002}}, 0}, {0o700, caller{1002, []uint32{2002}}, 0},
		{0o070, caller{1002, nil}, 0}, {0o700, caller{1001, nil}, 45}, {0o070, caller{1002, []uint32{2002}}, 45}, {0o007, caller{1002, nil}, 45},
		{0, caller{0, nil}, 45}, {0o400, caller{1001, nil}, 1}, {0o200, caller{1001, nil}, 12}, {0o100, caller{1001, nil}, 32},
		{0o070, caller{1002, append(otherGids(15), 2002)}, 45}, {0o070, caller{1002, append(otherGids(16), 2002)}, 0},
	} {
		if got := inode.Access(owned(c.mode)[0], c.who.uid, c.who.gids, 63); got != c.want {
			t.Errorf("Access of mode %o, %v: %d, want %d", c.mode, c.who, got, c.want)
		}
	}
}

// TestAccessKinds: what each permission grants of each kind (P12.7).
func TestAccessKinds(t *testing.T) {
	for i, wants := range [][4]uint32{{1, 4 + 8, 32, 1 + 4 + 8 + 32}, {1, 4 + 8 + 16, 2, 1 + 2 + 4 + 8 + 16}, {1, 4 + 8, 32, 1 + 4 + 8 + 32}} {
		for k, mode := range []uint32{0o004, 0o002, 0o001, 0o007} {
			x := owned(mode)[i]
			if got := inode.Access(x, 5, nil, top32); got != wants[k] {
				t.Errorf("Access of kind %d, mode %o: %d, want %d", x.Kind, mode, got, wants[k])
			}
		}
		x := owned(0)[i]
		if got := inode.Access(x, 0, nil, top32); got != wants[3] {
			t.Errorf("Access of kind %d by uid 0: %d, want %d", x.Kind, got, wants[3])
		}
	}
}

// TestAccessRoot: uid 0 is granted all also where it is the owner, and Uid 0 is nobody else's (P12.7).
func TestAccessRoot(t *testing.T) {
	for _, x := range owned(0o077) {
		x.Uid, x.Gid = 0, 0
		for _, who := range []caller{{0, nil}, {0, []uint32{0}}, {1, []uint32{0}}, {1, nil}} {
			for bits := range uint32(64) {
				grants(t, x, who.uid, who.gids, bits)
			}
		}
	}
}

// TestAccessRefused: nothing is granted of what Check refuses (P12.7).
func TestAccessRefused(t *testing.T) {
	for _, x := range append(slices.Concat(bad(), alone()), api.Inode{}) {
		x.Uid = 1
		for _, uid := range []uint32{0, 1, 2} {
			if got := inode.Access(x, uid, []uint32{x.Gid}, top32); got != 0 {
				t.Errorf("Access of %+v: %d", x, got)
			}
		}
	}
}

// TestExampleAccess: the document's third example.
func TestExampleAccess(t *testing.T) {
	x, _ := inode.New(8, 1, api.KindFile, 0o640, 1, 2, 5)
	for _, c := range []struct {
		who  caller
		want uint32
	}{{caller{1, nil}, 1 + 4 + 8}, {caller{3, []uint32{2}}, 1}, {caller{3, nil}, 0}, {caller{0, nil}, 1 + 4 + 8 + 32}} {
		if got := inode.Access(x, c.who.uid, c.who.gids, 63); got != c.want {
			t.Errorf("Access, %v: %d, want %d", c.who, got, c.want)
		}
	}
}
