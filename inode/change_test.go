package inode_test

import (
	"math"
	"testing"

	"granary/api"
	"granary/inode"
)

// someSet is what may be set, with another value everywhere.
func someSet(has int) api.SetAttr {
	return api.SetAttr{Has: has, Mode: 0o1234, Uid: 1001, Gid: 1002, Size: 1003, Atime: 1004, Mtime: 1005}
}

// TestApplyEach: each bit of Has alone, told by hand (P12.5).
func TestApplyEach(t *testing.T) {
	for _, x := range each() {
		for has, change := range map[int]func(y *api.Inode){
			api.SetMode:     func(y *api.Inode) { y.Mode, y.Ctime = 0o1234, 77 },
			api.SetUid:      func(y *api.Inode) { y.Uid, y.Ctime = 1001, 77 },
			api.SetGid:      func(y *api.Inode) { y.Gid, y.Ctime = 1002, 77 },
			api.SetAtime:    func(y *api.Inode) { y.Atime, y.Ctime = 1004, 77 },
			api.SetMtime:    func(y *api.Inode) { y.Mtime, y.Ctime = 1005, 77 },
			api.SetAtimeNow: func(y *api.Inode) { y.Atime, y.Ctime = 77, 77 },
			api.SetMtimeNow: func(y *api.Inode) { y.Mtime, y.Ctime = 77, 77 },
			0:               func(y *api.Inode) {},
		} {
			y := x
			change(&y)
			if got, sized, e := inode.Apply(x, someSet(has), 77); got != y || sized || e != api.OK {
				t.Errorf("Apply with Has %d of %+v: %+v, %v, error %d", has, x, got, sized, e)
			}
		}
	}
}

// TestApplySize: Size of each kind, to what it has, to another, to the greatest and beyond (P12.5).
func TestApplySize(t *testing.T) {
	for _, x := range each() {
		for _, size := range []uint64{0, 1, 8, x.Size, x.Size + 1, 1048575, 1048576, 1048577, 1 << 32, top64} {
			s := api.SetAttr{Has: api.SetSize, Size: size}
			got, sized, e := inode.Apply(x, s, 78)
			if x.Kind != api.KindFile || size > 1048576 {
				if got != (api.Inode{}) || sized || e != api.ErrRange {
					t.Errorf("Apply of Size %d to %+v: %+v, %v, error %d", size, x, got, sized, e)
				}
				continue
			}
			y := x
			y.Size, y.Ctime = size, 78
			if size != x.Size {
				y.Mtime = 78
			}
			if got != y || sized != (size != x.Size) || e != api.OK {
				t.Errorf("Apply of Size %d: %+v, %v, error %d, want %+v", size, got, sized, e, y)
			}
		}
	}
}

// TestApplySizeTimes: where Size is set to another value Mtime is now, unless it is set (P12.5).
func TestApplySizeTimes(t *testing.T) {
	x := someFile()
	for _, c := range []struct {
		has   int
		size  uint64
		mtime uint64
	}{
		{api.SetSize, 1, 79}, {api.SetSize | api.SetMtime, 1, 1005}, {api.SetSize | api.SetMtimeNow, 1, 79},
		{api.SetSize, x.Size, x.Mtime}, {api.SetSize | api.SetMtime, x.Size, 1005}, {api.SetSize | api.SetMtimeNow, x.Size, 79},
		{api.SetSize | api.SetAtime, 1, 79}, {api.SetSize | api.SetAtimeNow, x.Size, x.Mtime},
	} {
		s := someSet(c.has)
		s.Size = c.size
		got, sized, e := inode.Apply(x, s, 79)
		if e != api.OK || got.Mtime != c.mtime || got.Ctime != 79 || got.Size != c.size || sized != (c.size != x.Size) {
			t.Errorf("Has %d, Size %d: %+v, %v, error %d", c.has, c.size, got, sized, e)
		}
	}
}

// TestApplyHas: every sum of the bits, of each kind, with values that may and may not be (P12.5).
func TestApplyHas(t *testing.T) {
	for _, x := range append(each(), ends()...) {
		for has := range 256 {
			s := someSet(has)
			applies(t, x, s, 80)
			for _, s.Mode = range []uint32{0, 4095, 4096, top32} {
				for _, s.Size = range []uint64{0, x.Size, 1048576, 1048577, top64} {
					applies(t, x, s, 81)
				}
			}
		}
	}
}

// TestApplyBits: bits above 255 make it ErrRange, the sign's too (P12.5).
func TestApplyBits(t *testing.T) {
	all := []int{-1, -256, -255, math.MinInt, math.MaxInt, math.MinInt | 1, 256, 257, 511}
	for i := 8; i < 64; i++ {
		all = append(all, 1<<i, 1<<i|api.SetMode, 1<<i|api.SetSize)
	}
	for _, has := range all {
		for _, x := range each() {
			if got, sized, e := inode.Apply(x, someSet(has), 82); got != (api.Inode{}) || sized || e != api.ErrRange {
				t.Errorf("Apply with Has %d: %+v, %v, error %d", has, got, sized, e)
			}
		}
	}
	for i := range 8 {
		for k := range 8 {
			for _, x := range each() {
				applies(t, x, someSet(1<<i|1<<k), 83)
				applies(t, x, someSet(1<<i|1<<k|256), 83)
			}
		}
	}
}

// TestApplyTwice: no time may be set and be now (P12.5).
func TestApplyTwice(t *testing.T) {
	for _, x := range each() {
		for _, has := range []int{api.SetAtime | api.SetAtimeNow, api.SetMtime | api.SetMtimeNow} {
			_, _, e := inode.Apply(x, someSet(has), 84)
			want(t, "one time twice", e, api.ErrRange)
		}
		for _, has := range []int{api.SetAtime | api.SetMtimeNow, api.SetMtime | api.SetAtimeNow, api.SetAtime | api.SetMtime, api.SetAtimeNow | api.SetMtimeNow} {
			_, _, e := inode.Apply(x, someSet(has), 84)
			want(t, "both times", e, api.OK)
		}
	}
}

// TestApplyUnset: what is not set may be anything (P12.5).
func TestApplyUnset(t *testing.T) {
	for _, x := range each() {
		s := api.SetAttr{Mode: top32, Uid: top32, Gid: top32, Size: top64, Atime: top64, Mtime: top64}
		if got, sized, e := inode.Apply(x, s, 85); got != x || sized || e != api.OK {
			t.Errorf("Apply of nothing: %+v, %v, error %d, want %+v", got, sized, e, x)
		}
		for _, s.Has = range []int{api.SetUid, api.SetGid, api.SetAtime, api.SetMtime} {
			applies(t, x, s, 86)
		}
	}
}

// TestChangesOfFaults: Check's error comes ahead of all others, in Apply, Linked and Sized; Touch asks for nothing (P12.5, P12.6).
func TestChangesOfFaults(t *testing.T) {
	for _, x := range append(bad(), alone()...) {
		why := plainCheck(x)
		for _, has := range []int{0, 1, 8, 80, 256, -1} {
			if got, sized, e := inode.Apply(x, someSet(has), 87); got != (api.Inode{}) || sized || e != why {
				t.Errorf("Apply of %+v: %+v, %v, error %d, want %d", x, got, sized, e, why)
			}
		}
		for _, by := range []int{0, 1, -1, 40000, -40000, math.MaxInt, math.MinInt} {
			if got, e := inode.Linked(x, by, 87); got != (api.Inode{}) || e != why {
				t.Errorf("Linked of %+v: %+v, error %d, want %d", x, got, e, why)
			}
		}
		for _, size := range []uint64{0, 1, x.Size, 1048577} {
			if got, e := inode.Sized(x, size, 87); got != (api.Inode{}) || e != why {
				t.Errorf("Sized of %+v: %+v, error %d, want %d", x, got, e, why)
			}
		}
		if got := inode.Touch(x, 7, 87); got != plainTouch(x, 7, 87) {
			t.Errorf("Touch of %+v: %+v", x, got)
		}
	}
}

// TestTouch: each of the three bits, and no other one (P12.6).
func TestTouch(t *testing.T) {
	all := []int{-1, -2, -8, math.MinInt, math.MaxInt, math.MinInt | 5, 1 << 32, 1<<32 | 2}
	for which := range 16 {
		all = append(all, which)
	}
	for _, x := range append(ends(), api.Inode{}) {
		for _, which := range all {
			for _, now := range []uint64{0, 88, top64} {
				if got, y := inode.Touch(x, which, now), plainTouch(x, which, now); got != y {
					t.Errorf("Touch(%d) of %+v: %+v, want %+v", which, x, got, y)
				}
			}
		}
	}
	x := someFile()
	for _, c := range []struct {
		which                int
		atime, mtime, change uint64
	}{{0, x.Atime, x.Mtime, x.Ctime}, {1, 9, x.Mtime, x.Ctime}, {2, x.Atime, 9, x.Ctime}, {4, x.Atime, x.Mtime, 9}, {8, x.Atime, x.Mtime, x.Ctime}, {-1, 9, 9, 9}} {
		if y := inode.Touch(x, c.which, 9); y.Atime != c.atime || y.Mtime != c.mtime || y.Ctime != c.change {
			t.Errorf("Touch(%d): %+v", c.which, y)
		}
	}
}

// TestLinked: up to MaxLinks, down to 0, and no further, by whatever number (P12.6).
func TestLinked(t *testing.T) {
	for _, x := range each() {
		for _, x.Links = range []uint32{0, 1, 2, 3, 100, 31999, 32000} {
			n := int(x.Links)
			for _, by := range []int{0, 1, -1, 2, -2, 5, -n, -n - 1, -n + 1, 32000 - n, 32001 - n, 31999 - n, 32000, 32001, -32000, -32001, 1 << 32, -1 << 32, 1<<32 - n, math.MaxInt, math.MaxInt - 1, math.MinInt, math.MinInt + 1} {
				links(t, x, by, 89)
				got, e := inode.Linked(x, by, 89)
				if e == api.OK && int(got.Links)-n != by {
					t.Errorf("Linked of %d by %d: %d", n, by, got.Links)
				}
			}
		}
	}
	x := someFile()
	x.Links = 31999
	got, e := inode.Linked(x, 1, 90)
	if e != api.OK || got.Links != 32000 || got.Ctime != 90 || got.Mtime != x.Mtime || got.Atime != x.Atime {
		t.Errorf("Linked: %+v, error %d", got, e)
	}
	_, e = inode.Linked(got, 1, 90)
	want(t, "one more link", e, api.ErrLinks)
	got, e = inode.Linked(got, -32000, 91)
	if e != api.OK || got.Links != 0 || got.Ctime != 91 {
		t.Errorf("Linked: %+v, error %d", got, e)
	}
	_, e = inode.Linked(got, -1, 91)
	want(t, "one link fewer", e, api.ErrLinks)
}

// TestSized: of each kind, to what it has, to the greatest and beyond (P12.6).
func TestSized(t *testing.T) {
	for _, x := range ends() {
		for _, size := range []uint64{0, 1, x.Size, x.Size + 1, 1048575, 1048576, 1048577, 1 << 32, 1 << 63, top64} {
			for _, now := range []uint64{0, 92, top64} {
				sizes(t, x, size, now)
			}
		}
	}
	x := someFile()
	y := x
	y.Mtime, y.Ctime = 93, 93
	if got, e := inode.Sized(x, x.Size, 93); got != y || e != api.OK {
		t.Errorf("Sized to what it has: %+v, error %d", got, e)
	}
	y.Size = 1048576
	if got, e := inode.Sized(x, 1048576, 93); got != y || e != api.OK {
		t.Errorf("Sized to the greatest: %+v, error %d", got, e)
	}
	for _, x := range each()[1:] {
		_, e := inode.Sized(x, x.Size, 93)
		want(t, "Sized of no file", e, api.ErrRange)
	}
}

// TestExampleApply: the document's second example.
func TestExampleApply(t *testing.T) {
	f, _ := inode.New(8, 1, api.KindFile, 0o644, 0, 0, 5)
	s := api.SetAttr{Has: api.SetSize, Size: 9}
	y := api.Inode{Number: 8, Generation: 1, Kind: 1, Mode: 0o644, Links: 1, Size: 9, Atime: 5, Mtime: 6, Ctime: 6}
	if x, sized, e := inode.Apply(f, s, 6); x != y || !sized || e != api.OK {
		t.Errorf("Apply: %+v, %v, error %d", x, sized, e)
	}
	d, _ := inode.New(8, 1, api.KindDir, 0o755, 0, 0, 5)
	_, _, e := inode.Apply(d, s, 6)
	want(t, "Size of a directory", e, api.ErrRange)
	_, _, e = inode.Apply(f, api.SetAttr{Has: api.SetAtime | api.SetAtimeNow}, 6)
	want(t, "Atime twice", e, api.ErrRange)
}
