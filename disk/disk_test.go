package disk_test

import (
	"math"
	"testing"

	"granary/api"
	"granary/disk"
)

// TestNew: which disks there are, and that they begin with zeros (P4.1).
func TestNew(t *testing.T) {
	for _, sectors := range []int{1, 2, 300, 65535, 65536} {
		for _, size := range []int{8, 9, 224, 511, 512} {
			d := made(t, sectors, size)
			if d.Sectors() != sectors || d.Size() != size {
				t.Errorf("New(%d, %d): %d sectors of %d", sectors, size, d.Sectors(), d.Size())
			}
			for _, at := range []int{0, sectors / 2, sectors - 1} {
				readsFull(t, d, at, 0)
				stands(t, d, at, full(size, 0))
			}
			readsNone(t, d, sectors, api.ErrArg)
			readsNone(t, d, -1, api.ErrArg)
			hurt(t, d)
			waits(t, d)
			counts(t, d, 0)
			if d.Failed() {
				t.Errorf("New(%d, %d) has failed", sectors, size)
			}
		}
	}
}

// TestNewAllZero: every sector of a new disk, not some of them (P4.1).
func TestNewAllZero(t *testing.T) {
	d := made(t, 65536, 8)
	for at := range 65536 {
		readsFull(t, d, at, 0)
	}
}

// TestNewRefused: nil and ErrArg beyond the limits (P4.1).
func TestNewRefused(t *testing.T) {
	for _, c := range [][2]int{
		{0, 8}, {-1, 8}, {65537, 8}, {math.MinInt, 8}, {math.MaxInt, 8},
		{1, 7}, {1, 0}, {1, -1}, {1, 513}, {1, math.MinInt}, {1, math.MaxInt},
		{65536, 7}, {65536, 513}, {0, 512}, {65537, 512}, {0, 0}, {-8, -8},
		{1 << 32, 8}, {1, 1<<32 + 8}, {math.MaxInt, math.MaxInt},
	} {
		if d, e := disk.New(c[0], c[1]); d != nil || e != api.ErrArg {
			t.Errorf("New(%d, %d): %v, error %d", c[0], c[1], d != nil, e)
		}
	}
}

// TestNil: what each call answers on a nil Disk, whatever else is wrong (P4.7).
func TestNil(t *testing.T) {
	var d *disk.Disk
	for _, at := range []int{0, 1, -1, math.MinInt, math.MaxInt} {
		for _, data := range [][]byte{nil, {}, full(8, 1), full(512, 1)} {
			want(t, "Write", d.Write(at, data), api.ErrNone)
		}
		readsNone(t, d, at, api.ErrNone)
		want(t, "Lose", d.Lose(at), api.ErrNone)
		for _, bit := range []int{0, -1, 5, math.MinInt, math.MaxInt} {
			want(t, "Turn", d.Turn(at, bit, 0), api.ErrNone)
			want(t, "Turn", d.Turn(at, bit, 1), api.ErrNone)
		}
		if b, ok := d.Stable(at); len(b) != 0 || ok {
			t.Errorf("Stable(%d): %x, %v", at, b, ok)
		}
	}
	want(t, "Flush", d.Flush(), api.ErrNone)
	d.Crash(nil)
	d.Crash([]int{0, 1})
	d.Fail()
	d.Replace()
	if d.Sectors() != 0 || d.Size() != 0 || d.Writes() != 0 || d.Failed() || d.Copy() != nil {
		t.Errorf("nil: %d, %d, %d, %v, %v", d.Sectors(), d.Size(), d.Writes(), d.Failed(), d.Copy())
	}
	if len(d.Queue()) != 0 || len(d.Injured()) != 0 {
		t.Errorf("nil: %v, %v", d.Queue(), d.Injured())
	}
	alike(t, "nil and nil", nil, nil, true)
	alike(t, "nil and a disk", nil, made(t, 1, 8), false)
	failed := made(t, 1, 8)
	failed.Fail()
	alike(t, "nil and a failed disk", nil, failed, false)
}

// TestSame: what has a part in it, and what has none (P4.7).
func TestSame(t *testing.T) {
	fresh := func() *disk.Disk { return made(t, 3, 16) }
	alike(t, "two new ones", fresh(), fresh(), true)
	one := fresh()
	alike(t, "one with itself", one, one, true)
	alike(t, "other sectors", fresh(), made(t, 4, 16), false)
	alike(t, "other size", fresh(), made(t, 3, 17), false)
	alike(t, "as many bytes", made(t, 2, 16), made(t, 4, 8), false)
	for _, c := range []struct {
		name string
		a, b func(d *disk.Disk)
		same bool
	}{
		{"a write waits", func(d *disk.Disk) { write(t, d, 2, 0) }, nothing, false},
		{"other data waits", func(d *disk.Disk) { write(t, d, 2, 1) }, func(d *disk.Disk) { write(t, d, 2, 2) }, false},
		{"of another sector", func(d *disk.Disk) { write(t, d, 2, 1) }, func(d *disk.Disk) { write(t, d, 1, 1) }, false},
		{"in another order", func(d *disk.Disk) { write(t, d, 0, 1); write(t, d, 1, 1) }, func(d *disk.Disk) { write(t, d, 1, 1); write(t, d, 0, 1) }, false},
		{"twice", func(d *disk.Disk) { write(t, d, 0, 1); write(t, d, 0, 1) }, func(d *disk.Disk) { write(t, d, 0, 1) }, false},
		{"the same waits", func(d *disk.Disk) { write(t, d, 0, 1) }, func(d *disk.Disk) { write(t, d, 0, 1) }, true},
		{"the one waits, the other is flushed", func(d *disk.Disk) { write(t, d, 0, 1) }, func(d *disk.Disk) { write(t, d, 0, 1); flush(t, d) }, false},
		{"other stable bytes", func(d *disk.Disk) { write(t, d, 2, 1); flush(t, d) }, nothing, false},
		{"other ways, other Writes", func(d *disk.Disk) { write(t, d, 2, 1); flush(t, d); write(t, d, 2, 0); flush(t, d) }, nothing, true},
		{"lost", func(d *disk.Disk) { d.Lose(1) }, nothing, false},
		{"another is lost", func(d *disk.Disk) { d.Lose(1) }, func(d *disk.Disk) { d.Lose(2) }, false},
		{"both lost", func(d *disk.Disk) { d.Lose(1) }, func(d *disk.Disk) { d.Lose(1) }, true},
		{"lost with other bytes", func(d *disk.Disk) { d.Lose(1) }, func(d *disk.Disk) { write(t, d, 1, 7); flush(t, d); d.Lose(1) }, false},
		{"turned", func(d *disk.Disk) { d.Turn(1, 0, 255) }, nothing, false},
		{"both turned", func(d *disk.Disk) { d.Turn(1, 3, 2) }, func(d *disk.Disk) { d.Turn(1, 4, 1) }, true},
		{"turned in another way", func(d *disk.Disk) { d.Turn(1, 3, 1) }, func(d *disk.Disk) { d.Turn(1, 4, 1) }, false},
		{"turned, and written so", func(d *disk.Disk) { d.Turn(1, 0, 1) }, func(d *disk.Disk) {
			d.Write(1, append([]byte{1}, make([]byte, 15)...))
			flush(t, d)
		}, false},
		{"lost or turned", func(d *disk.Disk) { d.Turn(1, 0, 1) }, func(d *disk.Disk) {
			d.Write(1, append([]byte{1}, make([]byte, 15)...))
			flush(t, d)
			d.Lose(1)
		}, false},
		{"failed", func(d *disk.Disk) { d.Fail() }, nothing, false},
		{"both failed", func(d *disk.Disk) { d.Fail() }, func(d *disk.Disk) { d.Fail() }, true},
		{"both failed, other bytes", func(d *disk.Disk) { write(t, d, 0, 1); flush(t, d); d.Fail() }, func(d *disk.Disk) { d.Fail() }, false},
		{"both failed, one injured", func(d *disk.Disk) { d.Lose(0); d.Fail() }, func(d *disk.Disk) { d.Fail() }, false},
		{"replaced", func(d *disk.Disk) { write(t, d, 0, 1); d.Lose(1); d.Fail(); d.Replace() }, nothing, true},
		{"crashed", func(d *disk.Disk) { write(t, d, 0, 1); d.Crash(nil) }, nothing, true},
	} {
		a, b := fresh(), fresh()
		c.a(a)
		c.b(b)
		alike(t, c.name, a, b, c.same)
	}
}

func nothing(*disk.Disk) {}

// TestSameLastByte: the last sector's last byte has a part as the first one has (P4.7).
func TestSameLastByte(t *testing.T) {
	for _, size := range []int{8, 511, 512} {
		for at := range 3 {
			for i := range size {
				a, b := made(t, 3, size), made(t, 3, size)
				data := make([]byte, size)
				data[i] = 1
				a.Write(at, data)
				b.Write(at, make([]byte, size))
				alike(t, "waiting", a, b, false)
				flush(t, a)
				flush(t, b)
				alike(t, "stable", a, b, false)
			}
		}
	}
}

// TestCopy: a disk like this one in all (P4.7).
func TestCopy(t *testing.T) {
	d := made(t, 4, 8)
	write(t, d, 0, 'a')
	write(t, d, 1, 'b')
	flush(t, d)
	d.Lose(0)
	d.Turn(1, 7, 1)
	write(t, d, 2, 'c')
	write(t, d, 0, 'd')
	c := d.Copy()
	alike(t, "the copy", c, d, true)
	counts(t, c, 2)
	hurt(t, c, 0, 1)
	waits(t, c, "2c", "0d")
	stands(t, c, 0, full(8, 'a'))
	stands(t, c, 1, append([]byte{'b' ^ 128}, full(7, 'b')...))
	d.Fail()
	failed := d.Copy()
	alike(t, "the copy of a failed one", failed, d, true)
	if !failed.Failed() || c.Failed() {
		t.Error("a copy has failed when the disk it was made of has, and then alone")
	}
}
