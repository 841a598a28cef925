package stripe_test

import (
	"bytes"
	"slices"
	"testing"

	"granary/api"
	"granary/disk"
	"granary/rs"
	"granary/stripe"
)

// small is the geometry of the chapter's examples.
var small = api.Geometry{K: 2, M: 1, Blocks: 3, Rows: 5}

// everyCount calls do with a geometry of each number of data and parity shards.
func everyCount(blocks, rows int, do func(g api.Geometry)) {
	for k := 1; k <= 4; k++ {
		for m := 0; m <= 4; m++ {
			do(api.Geometry{K: k, M: m, Blocks: blocks, Rows: rows})
		}
	}
}

// newDisks is disks for a geometry, with so many sectors besides.
func newDisks(t *testing.T, g api.Geometry, more int) []*disk.Disk {
	t.Helper()
	var out []*disk.Disk
	for range g.K + g.M {
		d, e := disk.New(g.Rows+more, 32+384/g.K)
		want(t, "disk.New", e, api.OK)
		out = append(out, d)
	}
	return out
}

// opened is the device on the disks, where nothing can be wrong.
func opened(t *testing.T, g api.Geometry, disks []*disk.Disk) *stripe.Device {
	t.Helper()
	d, e := stripe.Open(g, disks)
	if e != api.OK || d == nil {
		t.Fatalf("Open(%+v): error %d", g, e)
	}
	return d
}

// made is a device on new disks.
func made(t *testing.T, g api.Geometry) (*stripe.Device, []*disk.Disk) {
	t.Helper()
	disks := newDisks(t, g, 0)
	return opened(t, g, disks), disks
}

// copies is a copy of each disk.
func copies(disks []*disk.Disk) []*disk.Disk {
	var out []*disk.Disk
	for _, d := range disks {
		out = append(out, d.Copy())
	}
	return out
}

// untouched: the disks are as the others are.
func untouched(t *testing.T, name string, disks, others []*disk.Disk) {
	t.Helper()
	for i := range disks {
		if !disk.Same(disks[i], others[i]) {
			t.Errorf("%s: the disk %d is another", name, i)
		}
	}
}

// crash lets the power fail with nothing kept.
func crash(disks []*disk.Disk) {
	for _, d := range disks {
		d.Crash(nil)
	}
}

// full is a block of c.
func full(c byte) []byte { return bytes.Repeat([]byte{c}, 384) }

// want: the error, and no other.
func want(t *testing.T, name string, got, e api.Errno) {
	t.Helper()
	if got != e {
		t.Errorf("%s: error %d, want %d", name, got, e)
	}
}

// write is one that must be OK.
func write(t *testing.T, d *stripe.Device, b int, p []byte) {
	t.Helper()
	want(t, "Write", d.Write(b, p), api.OK)
}

// flush is one that must be OK.
func flush(t *testing.T, d *stripe.Device) {
	t.Helper()
	want(t, "Flush", d.Flush(), api.OK)
}

// reads: the block answers these bytes.
func reads(t *testing.T, d *stripe.Device, b int, p []byte) {
	t.Helper()
	if got, e := d.Read(b); e != api.OK || !bytes.Equal(got, p) {
		t.Errorf("Read(%d): %x, error %d, want %x", b, got, e, p)
	}
}

// readsNone: the block answers nothing but the error.
func readsNone(t *testing.T, d *stripe.Device, b int, e api.Errno) {
	t.Helper()
	if got, why := d.Read(b); why != e || len(got) != 0 {
		t.Errorf("Read(%d): %x, error %d, want none and error %d", b, got, why, e)
	}
}

// lies: the block lies in that row.
func lies(t *testing.T, d *stripe.Device, b, row int) {
	t.Helper()
	if got, ok := d.RowOf(b); got != row || !ok {
		t.Errorf("RowOf(%d): %d, %v, want %d", b, got, ok, row)
	}
}

// liesNowhere: the block lies in no row.
func liesNowhere(t *testing.T, d *stripe.Device, b int) {
	t.Helper()
	if got, ok := d.RowOf(b); got != 0 || ok {
		t.Errorf("RowOf(%d): %d, %v, want none", b, got, ok)
	}
}

// looks: the block's shards are so, told by a letter each: Right, Wrong, Failed.
func looks(t *testing.T, d *stripe.Device, b int, shards string) {
	t.Helper()
	var states []int
	for _, c := range shards {
		states = append(states, map[rune]int{'R': 0, 'W': 1, 'F': 2}[c])
	}
	if got, e := d.Look(b); e != api.OK || !slices.Equal(got, states) {
		t.Errorf("Look(%d): %v, error %d, want %v", b, got, e, states)
	}
}

// heals: Heal answers just that.
func heals(t *testing.T, d *stripe.Device, b, n int, e api.Errno) {
	t.Helper()
	if got, why := d.Heal(b); got != n || why != e {
		t.Errorf("Heal(%d): %d, error %d, want %d, error %d", b, got, why, n, e)
	}
}

// rebuilds: Rebuild answers just that.
func rebuilds(t *testing.T, d *stripe.Device, n int, e api.Errno) {
	t.Helper()
	if got, why := d.Rebuild(); got != n || why != e {
		t.Errorf("Rebuild: %d, error %d, want %d, error %d", got, why, n, e)
	}
}

// loses: these blocks are lost, and no others.
func loses(t *testing.T, d *stripe.Device, blocks ...int) {
	t.Helper()
	if got := d.Lost(); !slices.Equal(got, blocks) {
		t.Errorf("Lost: %v, want %v", got, blocks)
	}
}

// stands: so many rows are free, and that is the next sequence.
func stands(t *testing.T, d *stripe.Device, free int, next uint64) {
	t.Helper()
	if d.FreeRows() != free || d.Sequence() != next {
		t.Errorf("FreeRows %d, Sequence %d, want %d, %d", d.FreeRows(), d.Sequence(), free, next)
	}
}

// schoolCrc is CRC-32C bit by bit.
func schoolCrc(p []byte) uint32 {
	register := ^uint32(0)
	for _, b := range p {
		for i := range 8 {
			low := register&1 ^ uint32(b>>i&1)
			register >>= 1
			if low == 1 {
				register ^= 0x82f63b78
			}
		}
	}
	return ^register
}

// summed is the bytes with their sum behind.
func summed(p []byte) []byte {
	crc := schoolCrc(p)
	return append(bytes.Clone(p), byte(crc), byte(crc>>8), byte(crc>>16), byte(crc>>24))
}

// schoolPut is a shard's bytes as P6.2 tells them, whatever its fields are.
func schoolPut(s api.Shard) []byte {
	p := []byte("SHRD")
	for i := 3; i >= 0; i-- {
		p = append(p, byte(s.Block>>(8*i)))
	}
	for i := 7; i >= 0; i-- {
		p = append(p, byte(s.Sequence>>(8*i)))
	}
	p = append(p, byte(s.Index), byte(s.K), byte(s.M), 0, 0, 0, 0, 0, 0, 0, 0, 0)
	return summed(append(p, s.Data...))
}

// shardData is the data of all shards of a block with the content p, by chapter 3.
func shardData(t *testing.T, g api.Geometry, p []byte) [][]byte {
	t.Helper()
	c, e := rs.New(g.K, g.M)
	want(t, "rs.New", e, api.OK)
	data, e := c.Split(p)
	want(t, "Split", e, api.OK)
	parity, e := c.Encode(data)
	want(t, "Encode", e, api.OK)
	return append(data, parity...)
}

// rowBytes is the sectors of a row that holds a block with that content.
func rowBytes(t *testing.T, g api.Geometry, b int, sequence uint64, p []byte) [][]byte {
	t.Helper()
	var out [][]byte
	for i, data := range shardData(t, g, p) {
		out = append(out, schoolPut(api.Shard{Block: b, Sequence: sequence, Index: i, K: g.K, M: g.M, Data: data}))
	}
	return out
}

// lay makes a sector stable, by hand.
func lay(t *testing.T, d *disk.Disk, row int, p []byte) {
	t.Helper()
	want(t, "disk.Write", d.Write(row, p), api.OK)
	want(t, "disk.Flush", d.Flush(), api.OK)
}

// layRow makes a row hold the block, by hand, with the shards that are named, or with all.
func layRow(t *testing.T, g api.Geometry, disks []*disk.Disk, row, b int, sequence uint64, p []byte, shards ...int) {
	t.Helper()
	for i, sector := range rowBytes(t, g, b, sequence, p) {
		if len(shards) == 0 || slices.Contains(shards, i) {
			lay(t, disks[i], row, sector)
		}
	}
}

// parts calls do with each part of the numbers below n.
func parts(n int, do func(part []int)) {
	for bits := range 1 << n {
		var part []int
		for i := range n {
			if bits>>i&1 == 1 {
				part = append(part, i)
			}
		}
		do(part)
	}
}

// dice is numbers that look thrown, the same ones each time.
type dice uint64

// below is the next number, of 0 to n - 1.
func (d *dice) below(n int) int {
	*d = *d*6364136223846793005 + 1442695040888963407
	return int(uint64(*d) >> 33 % uint64(n))
}

// bytes is n bytes.
func (d *dice) bytes(n int) []byte {
	p := make([]byte, n)
	for i := range p {
		p[i] = byte(d.below(256))
	}
	return p
}

// part is some of the numbers below n, none and all among them.
func (d *dice) part(n int) []int {
	var out []int
	share := d.below(5)
	for i := range n {
		if d.below(4) < share {
			out = append(out, i)
		}
	}
	return out
}

// word is 32 bits, with few of them set as often as with many.
func (d *dice) word() uint32 {
	w := uint32(d.below(1<<31))<<1 ^ uint32(d.below(1<<31))
	for range d.below(6) {
		w &= uint32(d.below(1<<31)) << d.below(2)
	}
	return w
}

// spoil writes over all of p, its spare room too.
func spoil(p []byte) {
	p = p[:cap(p)]
	for i := range p {
		p[i] = 0xee
	}
}

// roomy is the bytes of s in a list with spare room, which is told by its bytes.
func roomy(s []byte) []byte {
	p := make([]byte, len(s)+9)
	spoil(p)
	copy(p, s)
	return p[:len(s)]
}

// isRoomy: p is as roomy made it of s.
func isRoomy(p, s []byte) bool {
	return len(p) == len(s) && bytes.Equal(p[:cap(p)], roomy(s)[:len(s)+9])
}
