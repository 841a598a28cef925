package disk_test

import (
	"slices"
	"strings"
	"testing"

	"granary/api"
	"granary/disk"
)

// account is a disk as the chapter's words tell it, kept as plainly as can be.
type account struct {
	size   int
	stable []string
	hurt   []string // "", "lost" or "turned"
	queue  []api.Sector
	failed bool
	writes int
}

func newAccount(sectors, size int) *account {
	a := &account{size: size, hurt: make([]string, sectors)}
	for range sectors {
		a.stable = append(a.stable, strings.Repeat("\x00", size))
	}
	return a
}

func (a *account) write(at int, data []byte) api.Errno {
	if at < 0 || at >= len(a.stable) {
		return api.ErrArg
	}
	if len(data) != a.size {
		return api.ErrSize
	}
	if a.failed {
		return api.ErrFailed
	}
	if len(a.queue) == 4096 {
		return api.ErrMany
	}
	a.queue = append(a.queue, api.Sector{At: at, Data: string(data)})
	return api.OK
}

func (a *account) read(at int) (string, api.Errno) {
	if at < 0 || at >= len(a.stable) {
		return "", api.ErrArg
	}
	if a.failed {
		return "", api.ErrFailed
	}
	data, waiting := "", false
	for _, w := range a.queue {
		if w.At == at {
			data, waiting = w.Data, true
		}
	}
	if waiting {
		return data, api.OK
	}
	if a.hurt[at] == "lost" {
		return "", api.ErrLost
	}
	return a.stable[at], api.OK
}

// keep makes those writes stable whose number the function takes, and forgets the others.
func (a *account) keep(takes func(i int) bool) {
	for i, w := range a.queue {
		if takes(i) {
			a.stable[w.At], a.hurt[w.At] = w.Data, ""
			a.writes++
		}
	}
	a.queue = nil
}

func (a *account) flush() api.Errno {
	if a.failed {
		return api.ErrFailed
	}
	a.keep(func(int) bool { return true })
	return api.OK
}

func (a *account) replace() {
	fresh := newAccount(len(a.stable), a.size)
	fresh.writes = a.writes
	*a = *fresh
}

// injure is the errors that Lose and Turn share.
func (a *account) injure(at int, how string) api.Errno {
	if a.failed {
		return api.ErrFailed
	}
	if a.hurt[at] != "" {
		return api.ErrThere
	}
	a.hurt[at] = how
	return api.OK
}

func (a *account) lose(at int) api.Errno {
	if at < 0 || at >= len(a.stable) {
		return api.ErrArg
	}
	return a.injure(at, "lost")
}

func (a *account) turn(at, bit int, mask uint32) api.Errno {
	if at < 0 || at >= len(a.stable) || bit < 0 || bit > 8*a.size-1 {
		return api.ErrArg
	}
	p, any := []byte(a.stable[at]), false
	for place := range 8 * a.size {
		if i := place - bit; i >= 0 && i <= 31 && mask&(1<<i) != 0 {
			p[place/8] ^= 1 << (place % 8)
			any = true
		}
	}
	if !any {
		return api.ErrArg
	}
	e := a.injure(at, "turned")
	if e == api.OK {
		a.stable[at] = string(p)
	}
	return e
}

// same is P4.7 of two accounts.
func (a *account) same(b *account) bool {
	return a.size == b.size && a.failed == b.failed && slices.Equal(a.stable, b.stable) &&
		slices.Equal(a.hurt, b.hurt) && slices.Equal(a.queue, b.queue)
}

func (a *account) copy() *account {
	b := *a
	b.stable, b.hurt, b.queue = slices.Clone(a.stable), slices.Clone(a.hurt), slices.Clone(a.queue)
	return &b
}

// act is one call that may change a disk, by the name's first letter: Write, fLush, Crash, fAil, rEplace, lOse, Turn.
type act struct {
	kind byte
	at   int
	data []byte
	keep []int
	bit  int
	mask uint32
}

// on does it to a disk.
func (c act) on(d *disk.Disk) api.Errno {
	switch c.kind {
	case 'W':
		return d.Write(c.at, c.data)
	case 'L':
		return d.Flush()
	case 'C':
		d.Crash(c.keep)
	case 'A':
		d.Fail()
	case 'E':
		d.Replace()
	case 'O':
		return d.Lose(c.at)
	case 'T':
		return d.Turn(c.at, c.bit, c.mask)
	}
	return api.OK
}

// in does it to an account.
func (c act) in(a *account) api.Errno {
	switch c.kind {
	case 'W':
		return a.write(c.at, c.data)
	case 'L':
		return a.flush()
	case 'C':
		a.keep(func(i int) bool { return slices.Contains(c.keep, i) })
	case 'A':
		a.failed, a.queue = true, nil
	case 'E':
		a.replace()
	case 'O':
		return a.lose(c.at)
	case 'T':
		return a.turn(c.at, c.bit, c.mask)
	}
	return api.OK
}

// agree: everything that the disk tells is what the account has.
func agree(t *testing.T, d *disk.Disk, a *account) {
	t.Helper()
	var injured []int
	for at := -1; at <= len(a.stable); at++ {
		data, e := a.read(at)
		if b, got := d.Read(at); got != e || string(b) != data {
			t.Fatalf("Read(%d): %x, error %d, want %x, error %d", at, b, got, data, e)
		}
		there := at >= 0 && at < len(a.stable)
		b, ok := d.Stable(at)
		if ok != there || !there && len(b) != 0 || there && string(b) != a.stable[at] {
			t.Fatalf("Stable(%d): %x, %v", at, b, ok)
		}
		if there && a.hurt[at] != "" {
			injured = append(injured, at)
		}
	}
	if got := d.Injured(); !slices.Equal(got, injured) {
		t.Fatalf("Injured: %v, want %v", got, injured)
	}
	if got := d.Queue(); !slices.Equal(got, a.queue) {
		t.Fatalf("Queue: %x, want %x", got, a.queue)
	}
	if d.Writes() != a.writes || d.Failed() != a.failed || d.Sectors() != len(a.stable) || d.Size() != a.size {
		t.Fatalf("Writes %d, Failed %v, Sectors %d, Size %d, want %d, %v, %d, %d", d.Writes(), d.Failed(), d.Sectors(), d.Size(), a.writes, a.failed, len(a.stable), a.size)
	}
}

// shortActs is those of which short lists are gone through whole.
func shortActs() []act {
	return []act{
		{kind: 'W', at: 0, data: []byte("abcdefgh")},
		{kind: 'W', at: 0, data: []byte("ABCDEFGH")},
		{kind: 'W', at: 1, data: []byte("ijklmnop")},
		{kind: 'W', at: 1, data: []byte("seven..")},
		{kind: 'L'},
		{kind: 'C'},
		{kind: 'C', keep: []int{0}},
		{kind: 'C', keep: []int{2, 1, 9, -1, 1}},
		{kind: 'A'},
		{kind: 'E'},
		{kind: 'O', at: 0},
		{kind: 'O', at: 1},
		{kind: 'T', at: 0, bit: 0, mask: 1},
		{kind: 'T', at: 0, bit: 63, mask: 1<<31 | 1},
		{kind: 'T', at: 1, bit: 60, mask: 1 << 4},
	}
}

// TestShortLists: all lists of four acts, of a disk of two sectors, and behind each act all that can be asked (P4.2 to P4.6).
func TestShortLists(t *testing.T) {
	acts := shortActs()
	const length = 4
	total := 1
	for range length {
		total *= len(acts)
	}
	for number := range total {
		d, a := made(t, 2, 8), newAccount(2, 8)
		for rest, n := number, length; n > 0; rest, n = rest/len(acts), n-1 {
			c := acts[rest%len(acts)]
			if got, e := c.on(d), c.in(a); got != e {
				t.Fatalf("list %d, %+v: error %d, want %d", number, c, got, e)
			}
			agree(t, d, a)
		}
	}
}

// TestShortCopies: all lists of four acts again, each step on a copy, which leaves its original as it was (P4.7).
func TestShortCopies(t *testing.T) {
	acts := shortActs()
	var walk func(d *disk.Disk, a *account, n int)
	walk = func(d *disk.Disk, a *account, n int) {
		agree(t, d, a)
		if n == 0 {
			return
		}
		for _, c := range acts {
			d2, a2 := d.Copy(), a.copy()
			if got, e := c.on(d2), c.in(a2); got != e {
				t.Fatalf("%+v: error %d, want %d", c, got, e)
			}
			if disk.Same(d, d2) != a.same(a2) {
				t.Fatalf("behind %+v: Same %v", c, disk.Same(d, d2))
			}
			walk(d2, a2, n-1)
		}
		agree(t, d, a)
	}
	walk(made(t, 2, 8), newAccount(2, 8), 4)
}

// drawn is an act of any kind, now and then with something wrong.
func drawn(dice *dice, sectors, size, waiting int) act {
	c := act{kind: "WWWWWWWWLCCAEOOTTT"[dice.below(18)], at: dice.below(sectors)}
	if (c.kind == 'A' || c.kind == 'E') && dice.below(4) > 0 {
		c.kind = 'W'
	}
	if dice.below(12) == 0 {
		c.at = []int{-1, sectors, sectors + 7, -1 << 63, 1<<63 - 1}[dice.below(5)]
	}
	length := size
	if dice.below(12) == 0 {
		length = []int{0, size - 1, size + 1, 2 * size}[dice.below(4)]
	}
	c.data = dice.bytes(length)
	for range dice.below(waiting + 3) {
		c.keep = append(c.keep, dice.below(waiting+3)-1)
	}
	c.bit, c.mask = dice.below(8*size), dice.word()
	switch dice.below(6) {
	case 0:
		c.bit = 8*size - 1 - dice.below(33)
	case 1:
		c.bit = []int{-1, 0, 8*size - 1, 8 * size, -1 << 63, 1<<63 - 1}[dice.below(6)]
	case 2:
		c.mask = []uint32{0, 1, 1 << 31, 1<<32 - 1}[dice.below(4)]
	}
	return c
}

// TestDrawnLists: long lists of acts, and behind each act all that can be asked (P4.1 to P4.7).
func TestDrawnLists(t *testing.T) {
	dice := dice(4)
	for _, size := range []int{8, 9, 31, 128, 511, 512} {
		for sectors := 1; sectors <= 5; sectors++ {
			d, a := made(t, sectors, size), newAccount(sectors, size)
			oldDisk, oldAccount := d.Copy(), a.copy()
			for range 700 {
				c := drawn(&dice, sectors, size, len(a.queue))
				if got, e := c.on(d), c.in(a); got != e {
					t.Fatalf("%d sectors of %d, %+v: error %d, want %d", sectors, size, c, got, e)
				}
				agree(t, d, a)
				if disk.Same(d, oldDisk) != a.same(oldAccount) {
					t.Fatalf("%d sectors of %d, %+v: Same %v", sectors, size, c, disk.Same(d, oldDisk))
				}
				if dice.below(3) == 0 {
					agree(t, oldDisk, oldAccount)
					oldDisk, oldAccount = d.Copy(), a.copy()
				}
			}
		}
	}
}
