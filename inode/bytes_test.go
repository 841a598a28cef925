package inode_test

import (
	"bytes"
	"encoding/binary"
	"encoding/hex"
	"strings"
	"testing"

	"granary/api"
	"granary/inode"
)

// lays: Put of the inode is these bytes, told in hexadecimal with spaces, and Get of them the inode.
func lays(t *testing.T, x api.Inode, text string) {
	t.Helper()
	b, err := hex.DecodeString(strings.ReplaceAll(text, " ", ""))
	if err != nil {
		t.Fatal(err)
	}
	if got, e := inode.Put(x); e != api.OK || !bytes.Equal(got, b) {
		t.Errorf("Put of %+v: %x, error %d, want %x", x, got, e, b)
	}
	if y, e := inode.Get(b); e != api.OK || y != x {
		t.Errorf("Get of %x: %+v, error %d, want %+v", b, y, e, x)
	}
}

// TestPutBytes: the document's examples and an inode with another byte everywhere, byte for byte (P12.2).
func TestPutBytes(t *testing.T) {
	x, _ := inode.New(7, 1, api.KindDir, 0o40755, 0, 0, 5)
	zero := "0000000000000000 "
	lays(t, x, "0000000000000007 00000001 00000002 000001ed 00000002 00000000 00000000 "+zero+zero+strings.Repeat("0000000000000005 ", 3)+zero+"00000000")
	link := api.Inode{Number: 8, Generation: 1, Kind: api.KindLink, Links: 1, Size: 2, Target: "ab"}
	lays(t, link, "0000000000000008 00000001 00000005 00000000 00000001 00000000 00000000 0000000000000002 "+strings.Repeat(zero, 5)+"00000002 61620000")
	head := "0102030405060708 11121314 0000000%d 00000fac 00004321 21222324 31323334 %s"
	times := "5152535455565758 6162636465666768 7172737475767778 "
	file := strings.Replace(strings.Replace(head, "%d", "1", 1), "%s", "00000000000abcde 4142434445464748 "+times+"8182838485868788 00000000", 1)
	lays(t, someFile(), file)
	for n, tail := range []string{"", "61000000", "61620000", "61626300", "61626364", "6162636465000000", "6162636465660000", "6162636465666700", "6162636465666768"} {
		if n == 0 {
			continue
		}
		count := "0" + string(rune('0'+n))
		text := strings.Replace(strings.Replace(head, "%d", "5", 1), "%s", "00000000000000"+count+zero+times+zero+"000000"+count+tail, 1)
		lays(t, someLink("abcdefgh"[:n]), text)
	}
}

// TestPutLengths: 84 bytes, and the target in whole words (P12.2, P12.9).
func TestPutLengths(t *testing.T) {
	for n := range 300 {
		x := someLink(strings.Repeat("t", n))
		b, e := inode.Put(x)
		switch {
		case n == 0:
			want(t, "Put without a Target", e, api.ErrInode)
		case n > 255:
			want(t, "Put of a long Target", e, api.ErrLong)
		case e != api.OK || len(b) != 84+(n+3)/4*4:
			t.Errorf("Put of a Target of %d bytes: %d bytes, error %d", n, len(b), e)
		}
		puts(t, x)
		gets(t, plainBytes(x))
	}
}

// TestGetBeginnings: every beginning of an inode's bytes ends too early, and with more bytes behind something is left (P12.2).
func TestGetBeginnings(t *testing.T) {
	for _, x := range ends() {
		b := plainBytes(x)
		for n := range b {
			getsNone(t, "a beginning", b[:n], api.ErrShort)
		}
		for _, more := range []string{"\x00", "\x01", "\x00\x00", "\x00\x00\x00\x00", "\x01\x02\x03\x04", strings.Repeat("\x00", 300), string(b)} {
			getsNone(t, "with more behind", append(bytes.Clone(b), more...), api.ErrTail)
		}
		if y, e := inode.Get(b); y != x || e != api.OK {
			t.Errorf("Get of %x: %+v, error %d, want %+v", b, y, e, x)
		}
	}
	getsNone(t, "nil", nil, api.ErrShort)
	getsNone(t, "83 zeros", make([]byte, 83), api.ErrShort)
	getsNone(t, "84 zeros", make([]byte, 84), api.ErrInode)
	getsNone(t, "85 zeros", make([]byte, 85), api.ErrTail)
}

// withLength is a link's bytes with that length of its target, and so many bytes behind it.
func withLength(length uint32, behind int, with byte) []byte {
	b := plainBytes(someLink("x"))[:84]
	binary.BigEndian.PutUint32(b[80:], length)
	binary.BigEndian.PutUint64(b[32:], uint64(length))
	return append(b, bytes.Repeat([]byte{with}, behind)...)
}

// TestGetLengths: each length of the target with each number of bytes behind it (P12.2).
func TestGetLengths(t *testing.T) {
	for length := range uint32(262) {
		for behind := range 270 {
			gets(t, withLength(length, behind, 0))
			gets(t, withLength(length, behind, 't'))
		}
	}
	for _, length := range []uint32{256, 257, 1 << 16, 1<<31 - 4, 1<<31 - 1, 1 << 31, top32 - 3, top32 - 2, top32 - 1, top32} {
		for _, behind := range []int{0, 1, 2, 3, 4, 8, 255, 256, 257, 260, 1000} {
			getsNone(t, "a long target", withLength(length, behind, 't'), api.ErrLong)
		}
	}
	for behind := range 256 {
		getsNone(t, "within the greatest target", withLength(255, behind, 't'), api.ErrShort)
	}
	getsNone(t, "the greatest target, and no zero", withLength(255, 256, 't'), api.ErrInode)
	getsNone(t, "behind the greatest target", withLength(255, 257, 't'), api.ErrTail)
	most := withLength(255, 256, 't')
	most[len(most)-1] = 0
	if x, e := inode.Get(most); e != api.OK || x != someLink(strings.Repeat("t", 255)) {
		t.Errorf("Get of the greatest target: %+v, error %d", x, e)
	}
}

// TestGetZeros: each of the zeros behind a target is looked at (P12.2).
func TestGetZeros(t *testing.T) {
	for n := 1; n <= 255; n++ {
		b := plainBytes(someLink(strings.Repeat("t", n)))
		for at := 84 + n; at < len(b); at++ {
			for _, with := range []byte{1, 2, 0x80, 0xff} {
				c := bytes.Clone(b)
				c[at] = with
				getsNone(t, "a zero that is none", c, api.ErrInode)
			}
		}
	}
}

// TestGetFields: each field turned to what Check refuses is Check's error (P12.2).
func TestGetFields(t *testing.T) {
	for _, x := range bad() {
		if len(x.Target) <= 255 {
			getsNone(t, "a fault", plainBytes(x), plainCheck(x))
		}
	}
	for _, word := range []struct {
		at   int
		with uint32
		e    api.Errno
	}{
		{8, 0, api.ErrInode}, {12, 0, api.ErrInode}, {12, 3, api.ErrInode}, {12, 4, api.ErrInode}, {12, 6, api.ErrInode},
		{12, 0x01000001, api.ErrInode}, {12, 0x80000001, api.ErrInode}, {12, top32, api.ErrInode}, {12, 5, api.ErrInode},
		{16, 4096, api.ErrInode}, {16, top32, api.ErrInode}, {20, 32001, api.ErrLinks}, {20, top32, api.ErrLinks},
		{32, 1, api.ErrRange}, {36, 1048577, api.ErrRange}, {32, top32, api.ErrRange},
	} {
		b := plainBytes(someFile())
		binary.BigEndian.PutUint32(b[word.at:], word.with)
		getsNone(t, "a word", b, word.e)
	}
	b := plainBytes(someFile())
	copy(b, make([]byte, 8))
	getsNone(t, "Number 0", b, api.ErrInode)
}

// TestGetOrder: which error is told where two could be (P12.2).
func TestGetOrder(t *testing.T) {
	broken := func(change func(x *api.Inode)) []byte {
		x := someLink("a")
		change(&x)
		return plainBytes(x)
	}
	short := broken(func(x *api.Inode) { x.Links = 32001 })
	getsNone(t, "short, and too many links", short[:len(short)-1], api.ErrShort)
	getsNone(t, "a tail, and too many links", append(bytes.Clone(short), 0), api.ErrTail)
	zero := bytes.Clone(short)
	zero[85] = 1
	getsNone(t, "no zero, and too many links", zero, api.ErrInode)
	getsNone(t, "no zero, and a tail", append(bytes.Clone(zero), 0), api.ErrTail)
	getsNone(t, "no zero, and short", zero[:87], api.ErrShort)
	getsNone(t, "a long target, short", withLength(256, 0, 0), api.ErrLong)
	getsNone(t, "a long target, a tail", withLength(256, 300, 1), api.ErrLong)
	getsNone(t, "a long target that ends ahead of its length's last byte", withLength(256, 0, 0)[:83], api.ErrShort)
	long := withLength(256, 256, 't')
	copy(long, make([]byte, 8))
	getsNone(t, "a long target, and Number 0", long, api.ErrLong)
	size := broken(func(x *api.Inode) { x.Size, x.Root = 1048577, 1 })
	getsNone(t, "Check's own order", size, api.ErrRange)
}

// TestGetTurned: each byte of some inodes is turned to each other one (P12.2, P12.9).
func TestGetTurned(t *testing.T) {
	taken := 0
	for _, x := range append(each(), someLink("abc"), someLink(strings.Repeat("t", 253))) {
		b := plainBytes(x)
		for at := range b {
			for change := 1; change < 256; change++ {
				b[at] ^= byte(change)
				gets(t, b)
				if y, e := inode.Get(b); e == api.OK {
					taken++
					puts(t, y)
				}
				b[at] ^= byte(change)
			}
		}
	}
	if taken < 50000 {
		t.Errorf("only %d were inodes", taken)
	}
}
