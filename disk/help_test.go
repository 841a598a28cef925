package disk_test

import (
	"bytes"
	"slices"
	"strings"
	"testing"

	"granary/api"
	"granary/disk"
)

// made is a new disk, where nothing can be wrong.
func made(t *testing.T, sectors, size int) *disk.Disk {
	t.Helper()
	d, e := disk.New(sectors, size)
	if e != api.OK || d == nil {
		t.Fatalf("New(%d, %d): error %d", sectors, size, e)
	}
	return d
}

// full is size bytes of c.
func full(size int, c byte) []byte { return bytes.Repeat([]byte{c}, size) }

// write is one that must be OK.
func write(t *testing.T, d *disk.Disk, at int, c byte) {
	t.Helper()
	want(t, "Write", d.Write(at, full(d.Size(), c)), api.OK)
}

// flush is one that must be OK.
func flush(t *testing.T, d *disk.Disk) {
	t.Helper()
	want(t, "Flush", d.Flush(), api.OK)
}

// want: the error, and no other.
func want(t *testing.T, name string, got, e api.Errno) {
	t.Helper()
	if got != e {
		t.Errorf("%s: error %d, want %d", name, got, e)
	}
}

// reads: the sector answers these bytes.
func reads(t *testing.T, d *disk.Disk, at int, data []byte) {
	t.Helper()
	if b, e := d.Read(at); e != api.OK || !bytes.Equal(b, data) {
		t.Errorf("Read(%d): %x, error %d, want %x", at, b, e, data)
	}
}

// readsFull: the sector is full of c.
func readsFull(t *testing.T, d *disk.Disk, at int, c byte) {
	t.Helper()
	reads(t, d, at, full(d.Size(), c))
}

// readsNone: the sector answers nothing but the error.
func readsNone(t *testing.T, d *disk.Disk, at int, e api.Errno) {
	t.Helper()
	if b, got := d.Read(at); got != e || len(b) != 0 {
		t.Errorf("Read(%d): %x, error %d, want none and error %d", at, b, got, e)
	}
}

// stands: the sector has these bytes as stable ones.
func stands(t *testing.T, d *disk.Disk, at int, data []byte) {
	t.Helper()
	if b, ok := d.Stable(at); !ok || !bytes.Equal(b, data) {
		t.Errorf("Stable(%d): %x, %v, want %x", at, b, ok, data)
	}
}

// hurt: these sectors are injured, and no others.
func hurt(t *testing.T, d *disk.Disk, at ...int) {
	t.Helper()
	if got := d.Injured(); !slices.Equal(got, at) {
		t.Errorf("Injured: %v, want %v", got, at)
	}
}

// waits: the queue has these writes of whole sectors, each told as its number and its byte.
func waits(t *testing.T, d *disk.Disk, writes ...string) {
	t.Helper()
	var queue []api.Sector
	for _, w := range writes {
		queue = append(queue, api.Sector{At: int(w[0] - '0'), Data: strings.Repeat(w[1:], d.Size())})
	}
	if got := d.Queue(); !slices.Equal(got, queue) {
		t.Errorf("Queue: %x, want %x", got, queue)
	}
}

// counts: so many writes have become stable.
func counts(t *testing.T, d *disk.Disk, n int) {
	t.Helper()
	if got := d.Writes(); got != n {
		t.Errorf("Writes: %d, want %d", got, n)
	}
}

// alike: Same says so in both orders.
func alike(t *testing.T, name string, a, b *disk.Disk, same bool) {
	t.Helper()
	if disk.Same(a, b) != same || disk.Same(b, a) != same {
		t.Errorf("%s: Same: %v and %v, want %v", name, disk.Same(a, b), disk.Same(b, a), same)
	}
}

// dice is numbers that look thrown, the same ones each time.
type dice uint64

// below is the next number, of 0 to n - 1.
func (d *dice) below(n int) int {
	*d = *d*6364136223846793005 + 1442695040888963407
	return int(uint64(*d) >> 33 % uint64(n))
}

// bytes is n bytes.
func (d *dice) bytes(n int) []byte {
	p := make([]byte, n)
	for i := range p {
		p[i] = byte(d.below(256))
	}
	return p
}

// word is 32 bits, with few of them set as often as with many.
func (d *dice) word() uint32 {
	w := uint32(d.below(1<<31))<<1 ^ uint32(d.below(1<<31))
	for range d.below(6) {
		w &= uint32(d.below(1<<31)) << d.below(2)
	}
	return w
}

// spoil writes over all of p, its spare room too.
func spoil(p []byte) {
	p = p[:cap(p)]
	for i := range p {
		p[i] = 0xee
	}
}

// roomy is the bytes of s in a list with spare room, which is told by its bytes.
func roomy(s []byte) []byte {
	p := make([]byte, len(s)+9)
	spoil(p)
	copy(p, s)
	return p[:len(s)]
}

// isRoomy: p is as roomy made it of s.
func isRoomy(p, s []byte) bool {
	return len(p) == len(s) && bytes.Equal(p[:cap(p)], roomy(s)[:len(s)+9])
}
