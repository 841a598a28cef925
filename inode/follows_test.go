package inode_test

import (
	"bytes"
	"testing"

	"granary/api"
	"granary/inode"
)

// TestThereAndBack: Get of Put is the inode, and GetHandle of PutHandle the handle (P12.9).
func TestThereAndBack(t *testing.T) {
	dice := dice(9)
	for range 20000 {
		x := dice.inode()
		b, e := inode.Put(x)
		want(t, "Put", e, api.OK)
		if y, e := inode.Get(b); y != x || e != api.OK {
			t.Fatalf("Get of Put of %+v: %+v, error %d", x, y, e)
		}
		h := api.Handle{Fs: dice.word(), Number: max(1, dice.long()), Generation: max(1, dice.word())}
		b, e = inode.PutHandle(h)
		want(t, "PutHandle", e, api.OK)
		if y, e := inode.GetHandle(b); y != h || e != api.OK {
			t.Fatalf("GetHandle of PutHandle of %+v: %+v, error %d", h, y, e)
		}
	}
}

// hurt is bytes with some of them changed, cut off, or put behind.
func hurt(dice *dice, b []byte) []byte {
	b = bytes.Clone(b)
	for range dice.below(4) {
		if len(b) > 0 {
			b[dice.below(len(b))] = byte(dice.below(256))
		}
	}
	switch dice.below(6) {
	case 0:
		b = b[:dice.below(len(b)+1)]
	case 1:
		b = append(b, dice.bytes(dice.below(6))...)
	}
	return b
}

// TestTakenIsLaid: what Get and GetHandle take is what Put and PutHandle lay, of drawn bytes (P12.2, P12.8, P12.9).
func TestTakenIsLaid(t *testing.T) {
	dice := dice(10)
	inodes, others := 0, 0
	for range 60000 {
		b := hurt(&dice, plainBytes(dice.inode()))
		gets(t, b)
		x, e := inode.Get(b)
		if e != api.OK {
			others++
			continue
		}
		inodes++
		if again, e := inode.Put(x); e != api.OK || !bytes.Equal(again, b) {
			t.Fatalf("Put of Get of %x: %x, error %d", b, again, e)
		}
	}
	if inodes < 5000 || others < 5000 {
		t.Errorf("%d were inodes, %d none", inodes, others)
	}
	for range 20000 {
		b := hurt(&dice, plainHandle(api.Handle{Fs: dice.word(), Number: dice.long(), Generation: dice.word()}))
		handles(t, b)
		if h, e := inode.GetHandle(b); e == api.OK {
			if again, e := inode.PutHandle(h); e != api.OK || !bytes.Equal(again, b) {
				t.Fatalf("PutHandle of GetHandle of %x: %x, error %d", b, again, e)
			}
		}
	}
	for n := range 400 {
		gets(t, dice.bytes(n))
		handles(t, dice.bytes(n))
	}
}

// drawnChange is x behind a drawn change, and whether there was no error; each is held against the chapter's words.
func drawnChange(t *testing.T, dice *dice, x api.Inode) (api.Inode, bool) {
	now := dice.long()
	switch dice.below(4) {
	case 0:
		s := dice.set()
		applies(t, x, s, now)
		y, _, e := inode.Apply(x, s, now)
		return y, e == api.OK
	case 1:
		by := dice.below(7) - 3
		if dice.below(3) == 0 {
			by = int(dice.long())
		}
		links(t, x, by, now)
		y, e := inode.Linked(x, by, now)
		return y, e == api.OK
	case 2:
		size := dice.long() >> dice.below(64)
		sizes(t, x, size, now)
		y, e := inode.Sized(x, size, now)
		return y, e == api.OK
	}
	which := int(dice.long())
	y := inode.Touch(x, which, now)
	if y != plainTouch(x, which, now) {
		t.Errorf("Touch(%d) of %+v: %+v", which, x, y)
	}
	return y, true
}

// TestKeptRight: what is answered with OK, and Touch of what Check takes, Check takes, change behind change (P12.10).
func TestKeptRight(t *testing.T) {
	dice := dice(11)
	changes := 0
	for range 3000 {
		x := dice.inode()
		for range 20 {
			y, ok := drawnChange(t, &dice, x)
			if !ok {
				continue
			}
			changes++
			if e := inode.Check(y); e != api.OK {
				t.Fatalf("%+v became %+v: error %d", x, y, e)
			}
			x = y
		}
	}
	if changes < 20000 {
		t.Errorf("only %d changes", changes)
	}
	for range 5000 {
		kind, mode := dice.below(8), dice.word()
		if x, e := inode.New(dice.long(), dice.word(), kind, mode, dice.word(), dice.word(), dice.long()); e == api.OK {
			want(t, "Check of New", inode.Check(x), api.OK)
		}
	}
	for range 20000 { // and what is refused is refused as it should be
		drawnChange(t, &dice, dice.any())
	}
}

// TestNothingElse: no other field has changed than those that are named (P12.11).
func TestNothingElse(t *testing.T) {
	dice := dice(12)
	for range 30000 {
		x, now := dice.inode(), dice.long()
		s := dice.set()
		if y, sized, e := inode.Apply(x, s, now); e == api.OK {
			back := y
			back.Ctime = x.Ctime
			for bit, undo := range map[int]func(){
				api.SetMode: func() { back.Mode = x.Mode }, api.SetUid: func() { back.Uid = x.Uid }, api.SetGid: func() { back.Gid = x.Gid },
				api.SetSize: func() { back.Size = x.Size }, api.SetAtime | api.SetAtimeNow: func() { back.Atime = x.Atime },
				api.SetMtime | api.SetMtimeNow: func() { back.Mtime = x.Mtime },
			} {
				if s.Has&bit != 0 {
					undo()
				}
			}
			if sized {
				back.Mtime = x.Mtime
			}
			if back != x || s.Has == 0 && y != x {
				t.Fatalf("Apply of %+v to %+v: %+v", s, x, y)
			}
		}
		if y, e := inode.Linked(x, dice.below(5)-2, now); e == api.OK {
			y.Links, y.Ctime = x.Links, x.Ctime
			if y != x {
				t.Fatalf("Linked of %+v: %+v", x, y)
			}
		}
		if y, e := inode.Sized(x, dice.long()%1048577, now); e == api.OK {
			y.Size, y.Mtime, y.Ctime = x.Size, x.Mtime, x.Ctime
			if y != x {
				t.Fatalf("Sized of %+v: %+v", x, y)
			}
		}
	}
}

// TestLessOfLess: what is granted of a part of want is that part of what is granted of want (P12.12).
func TestLessOfLess(t *testing.T) {
	dice := dice(13)
	for range 60000 {
		x := dice.any()
		uid := []uint32{0, x.Uid, dice.word()}[dice.below(3)]
		gids := make([]uint32, dice.below(20))
		for i := range gids {
			gids[i] = dice.word()
		}
		if len(gids) > 0 && dice.below(2) == 0 {
			gids[dice.below(len(gids))] = x.Gid
		}
		bits, part := dice.word(), dice.word()
		if dice.below(2) == 0 {
			bits %= 64
		}
		grants(t, x, uid, gids, bits)
		whole := inode.Access(x, uid, gids, bits)
		if got := inode.Access(x, uid, gids, bits&part); got != whole&part || whole&^bits != 0 {
			t.Fatalf("Access of %+v, uid %d, want %d: %d, but %d of %d", x, uid, bits&part, got, whole, bits)
		}
	}
}
