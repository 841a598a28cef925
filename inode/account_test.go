package inode_test

import (
	"encoding/binary"
	"fmt"
	"slices"

	"granary/api"
)

// Here stands what the chapter's words say, one by one and without the package: the tests hold the package against it.

// fault is something that Check refuses, and with what.
type fault struct {
	name string
	err  api.Errno
	is   func(x api.Inode) bool
}

// faults is P12.1's list, in its order.
func faults() []fault {
	link := func(x api.Inode) bool { return x.Kind == 5 }
	return []fault{
		{"Number 0", api.ErrInode, func(x api.Inode) bool { return x.Number == 0 }},
		{"Generation 0", api.ErrInode, func(x api.Inode) bool { return x.Generation == 0 }},
		{"no Kind", api.ErrInode, func(x api.Inode) bool { return !slices.Contains([]int{1, 2, 5}, x.Kind) }},
		{"Mode", api.ErrInode, func(x api.Inode) bool { return x.Mode > 4095 }},
		{"Links", api.ErrLinks, func(x api.Inode) bool { return x.Links > 32000 }},
		{"long Target", api.ErrLong, func(x api.Inode) bool { return len(x.Target) > 255 }},
		{"Size", api.ErrRange, func(x api.Inode) bool { return x.Size > 1048576 }},
		{"a Target of no link", api.ErrInode, func(x api.Inode) bool { return !link(x) && len(x.Target) > 0 }},
		{"no Target", api.ErrInode, func(x api.Inode) bool { return link(x) && len(x.Target) == 0 }},
		{"another Size", api.ErrInode, func(x api.Inode) bool { return link(x) && x.Size != uint64(len(x.Target)) }},
		{"a link's Root", api.ErrInode, func(x api.Inode) bool { return link(x) && x.Root != 0 }},
		{"a link's Blocks", api.ErrInode, func(x api.Inode) bool { return link(x) && x.Blocks != 0 }},
	}
}

// plainCheck is P12.1.
func plainCheck(x api.Inode) api.Errno {
	for _, f := range faults() {
		if f.is(x) {
			return f.err
		}
	}
	return api.OK
}

// plainBytes is P12.2's bytes, also of an inode that can not be; as many of its Kind's bits as there is room for.
func plainBytes(x api.Inode) []byte {
	out := binary.BigEndian.AppendUint64(nil, x.Number)
	for _, n := range []uint32{x.Generation, uint32(x.Kind), x.Mode, x.Links, x.Uid, x.Gid} {
		out = binary.BigEndian.AppendUint32(out, n)
	}
	for _, n := range []uint64{x.Size, x.Blocks, x.Atime, x.Mtime, x.Ctime, x.Root} {
		out = binary.BigEndian.AppendUint64(out, n)
	}
	out = binary.BigEndian.AppendUint32(out, uint32(len(x.Target)))
	out = append(out, x.Target...)
	for len(out)%4 != 0 {
		out = append(out, 0)
	}
	return out
}

// plainGet is P12.2's Get.
func plainGet(b []byte) (api.Inode, api.Errno) {
	none := api.Inode{}
	if len(b) < 84 {
		return none, api.ErrShort
	}
	word := func(at int) uint32 { return binary.BigEndian.Uint32(b[at:]) }
	long := func(at int) uint64 { return binary.BigEndian.Uint64(b[at:]) }
	if word(80) > 255 {
		return none, api.ErrLong
	}
	n := int(word(80))
	end := 84 + n
	for end%4 != 0 {
		end++
	}
	if len(b) < end {
		return none, api.ErrShort
	}
	if len(b) > end {
		return none, api.ErrTail
	}
	if slices.ContainsFunc(b[84+n:], func(c byte) bool { return c != 0 }) {
		return none, api.ErrInode
	}
	x := api.Inode{
		Number: long(0), Generation: word(8), Kind: int(word(12)), Mode: word(16), Links: word(20), Uid: word(24), Gid: word(28),
		Size: long(32), Blocks: long(40), Atime: long(48), Mtime: long(56), Ctime: long(64), Root: long(72), Target: string(b[84 : 84+n]),
	}
	if e := plainCheck(x); e != api.OK {
		return none, e
	}
	return x, api.OK
}

// plainApply is P12.5.
func plainApply(x api.Inode, s api.SetAttr, now uint64) (api.Inode, bool, api.Errno) {
	none := api.Inode{}
	if e := plainCheck(x); e != api.OK {
		return none, false, e
	}
	if s.Has < 0 || s.Has > 255 {
		return none, false, api.ErrRange
	}
	var set [8]bool
	for i := range set {
		set[i] = s.Has>>i%2 == 1
	}
	if set[4] && set[6] || set[5] && set[7] || set[0] && s.Mode > 4095 || set[3] && (s.Size > 1048576 || x.Kind != 1) {
		return none, false, api.ErrRange
	}
	y := x
	for i, do := range []func(){
		func() { y.Mode = s.Mode }, func() { y.Uid = s.Uid }, func() { y.Gid = s.Gid }, func() { y.Size = s.Size },
		func() { y.Atime = s.Atime }, func() { y.Mtime = s.Mtime }, func() { y.Atime = now }, func() { y.Mtime = now },
	} {
		if set[i] {
			do()
		}
	}
	if s.Has != 0 {
		y.Ctime = now
	}
	if y.Size != x.Size && !set[5] && !set[7] {
		y.Mtime = now
	}
	return y, y.Size != x.Size, api.OK
}

// plainTouch is P12.6's Touch.
func plainTouch(x api.Inode, which int, now uint64) api.Inode {
	bits := uint64(which)
	if bits%2 == 1 {
		x.Atime = now
	}
	if bits/2%2 == 1 {
		x.Mtime = now
	}
	if bits/4%2 == 1 {
		x.Ctime = now
	}
	return x
}

// plainLinked is P12.6's Linked; by a float, in which no sum wraps round.
func plainLinked(x api.Inode, by int, now uint64) (api.Inode, api.Errno) {
	if e := plainCheck(x); e != api.OK {
		return api.Inode{}, e
	}
	links := float64(x.Links) + float64(by)
	if links < 0 || links > 32000 {
		return api.Inode{}, api.ErrLinks
	}
	x.Links, x.Ctime = uint32(links), now
	return x, api.OK
}

// plainSized is P12.6's Sized.
func plainSized(x api.Inode, size uint64, now uint64) (api.Inode, api.Errno) {
	if e := plainCheck(x); e != api.OK {
		return api.Inode{}, e
	}
	if x.Kind != 1 || size > 1048576 {
		return api.Inode{}, api.ErrRange
	}
	x.Size, x.Mtime, x.Ctime = size, now, now
	return x, api.OK
}

// plainAccess is P12.7: the mode is read as octal digits, and each bit of want is looked up.
func plainAccess(x api.Inode, uid uint32, gids []uint32, want uint32) uint32 {
	if plainCheck(x) != api.OK {
		return 0
	}
	digits := fmt.Sprintf("%04o", x.Mode)
	digit := digits[3] - '0'
	for i, gid := range gids {
		if i < 16 && gid == x.Gid {
			digit = digits[2] - '0'
		}
	}
	if uid == x.Uid {
		digit = digits[1] - '0'
	}
	if uid == 0 {
		digit = 7
	}
	needs := [6]byte{4, 0, 2, 2, 0, 1} // of each bit, from 1 on: which permission grants it; 0: none does
	if x.Kind == 2 {
		needs = [6]byte{4, 1, 2, 2, 2, 0}
	}
	granted := uint32(0)
	for i, need := range needs {
		if digit&need != 0 && want>>i%2 == 1 {
			granted += 1 << i
		}
	}
	return granted
}

// plainHandle is P12.8's bytes, also of a handle that can not be.
func plainHandle(h api.Handle) []byte {
	out := binary.BigEndian.AppendUint32([]byte("GRN1"), h.Fs)
	out = binary.BigEndian.AppendUint64(out, h.Number)
	return binary.BigEndian.AppendUint32(out, h.Generation)
}

// plainGetHandle is P12.8's GetHandle.
func plainGetHandle(b []byte) (api.Handle, api.Errno) {
	if len(b) != 20 || b[0] != 'G' || b[1] != 'R' || b[2] != 'N' || b[3] != '1' {
		return api.Handle{}, api.ErrHandle
	}
	h := api.Handle{Fs: binary.BigEndian.Uint32(b[4:]), Number: binary.BigEndian.Uint64(b[8:]), Generation: binary.BigEndian.Uint32(b[16:])}
	if h.Number == 0 || h.Generation == 0 {
		return api.Handle{}, api.ErrHandle
	}
	return h, api.OK
}
