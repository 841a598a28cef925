package inode_test

import (
	"bytes"
	"slices"
	"strings"
	"testing"

	"granary/api"
	"granary/inode"
)

// TestHandedIn: bytes and lists that are handed in are not changed, their spare room neither (rule 3).
func TestHandedIn(t *testing.T) {
	file, link, handle := plainBytes(someFile()), plainBytes(someLink("abc")), plainHandle(someHandle())
	for _, p := range [][]byte{nil, file, link, link[:87], append(bytes.Clone(link), 1), handle, handle[:19]} {
		b := spare(p, 'x')
		kept := bytes.Clone(b[:cap(b)])
		inode.Get(b)
		inode.GetHandle(b)
		if !bytes.Equal(b[:cap(b)], kept) {
			t.Errorf("%x was changed", p)
		}
	}
	for _, n := range []int{0, 1, 15, 16, 17, 40} {
		gids := spare(otherGids(n), 2002)
		kept := slices.Clone(gids[:cap(gids)])
		for _, x := range owned(0o070) {
			if got := inode.Access(x, 7, gids, 63); got != 0 { // the spare room is full of its Gid
				t.Errorf("Access with %d gids: %d", n, got)
			}
			inode.Access(x, 1001, gids, 63)
			inode.Access(x, 0, gids, 63)
		}
		if !slices.Equal(gids[:cap(gids)], kept) {
			t.Errorf("%d gids were changed", n)
		}
	}
}

// TestNotKept: what is handed in may be written over, and what was answered stays (rule 3).
func TestNotKept(t *testing.T) {
	for _, target := range []string{"a", "abcd", strings.Repeat("t", 255)} {
		b := plainBytes(someLink(target))
		x, e := inode.Get(b)
		spoil(b, '!')
		if e != api.OK || x != someLink(target) {
			t.Errorf("Get keeps its bytes: %+v, error %d", x, e)
		}
	}
	b := plainHandle(someHandle())
	h, e := inode.GetHandle(b)
	spoil(b, '!')
	if e != api.OK || h != someHandle() {
		t.Errorf("GetHandle keeps its bytes: %+v, error %d", h, e)
	}
}

// TestNewMemory: all that is answered is new each time, spare room too (rule 3).
func TestNewMemory(t *testing.T) {
	for _, x := range ends() {
		first, _ := inode.Put(x)
		second, _ := inode.Put(x)
		spoil(first, '!')
		third, _ := inode.Put(x)
		if !bytes.Equal(second, plainBytes(x)) || !bytes.Equal(third, plainBytes(x)) {
			t.Errorf("Put of %+v shares its bytes", x)
		}
		if len(second) < cap(second) {
			behind := append(second, '?')
			spoil(behind, '?')
			if again, _ := inode.Put(x); !bytes.Equal(again, third) {
				t.Errorf("Put of %+v shares its spare room", x)
			}
		}
	}
	first, _ := inode.PutHandle(someHandle())
	second, _ := inode.PutHandle(someHandle())
	spoil(first, '!')
	third, _ := inode.PutHandle(someHandle())
	if !bytes.Equal(second, plainHandle(someHandle())) || !bytes.Equal(third, second) {
		t.Errorf("PutHandle shares its bytes")
	}
}

// TestNilIsEmpty: nil and an empty list are the same where they are handed in (rule 3).
func TestNilIsEmpty(t *testing.T) {
	getsNone(t, "nil", nil, api.ErrShort)
	getsNone(t, "empty", []byte{}, api.ErrShort)
	getsNoHandle(t, nil)
	getsNoHandle(t, []byte{})
	for mode := range uint32(512) {
		for _, x := range owned(mode) {
			if a, b := inode.Access(x, 7, nil, 63), inode.Access(x, 7, []uint32{}, 63); a != b {
				t.Errorf("Access of mode %o without gids: %d and %d", mode, a, b)
			}
		}
	}
}

// TestSameAgain: what is answered hangs on what was handed in, on nothing else (rule 4).
func TestSameAgain(t *testing.T) {
	dice := dice(14)
	for range 2000 {
		x, s, now := dice.any(), dice.set(), dice.long()
		a, sizedA, e := inode.Apply(x, s, now)
		drawnChange(t, &dice, dice.any())
		b, sizedB, f := inode.Apply(x, s, now)
		if a != b || sizedA != sizedB || e != f {
			t.Fatalf("Apply of %+v to %+v: %+v, error %d, and then %+v, error %d", s, x, a, e, b, f)
		}
	}
}
