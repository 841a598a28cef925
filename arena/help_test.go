package arena_test

import (
	"bytes"
	"crypto/sha256"
	"encoding/binary"
	"slices"
	"testing"

	"granary/api"
	"granary/arena"
)

// errBroken is what a plate answers where it is made to refuse: no number of the document's.
const errBroken api.Errno = 999

// top is the greatest stamp.
const top = uint64(1 << 62)

// call is one that a device has heard: r, w or f, of which block, with which bytes.
type call struct {
	kind  byte
	block int
	data  string
}

// fault is what a device has heard, and at which call it refuses.
type fault struct {
	calls []call
	until int       // the call that is refused, from 1 on; 0: none
	why   api.Errno // the error that it is refused with
	dead  bool      // from then on all are
	late  bool      // the one that is refused is done all the same
}

// refuses counts the call, and tells the error that it is refused with, and whether it is done.
func (f *fault) refuses(c call) (api.Errno, bool) {
	f.calls = append(f.calls, c)
	if f.until == 0 {
		return api.OK, true
	}
	if f.until > 1 {
		f.until--
		return api.OK, true
	}
	if !f.dead {
		f.until = 0
	}
	done := f.late
	f.late = false
	return f.why, done
}

// do does what the call asks for, if it is to be done, and answers as the device does.
func (f *fault) do(c call, what func() api.Errno) api.Errno {
	why, done := f.refuses(c)
	if done {
		if e := what(); e != api.OK && why == api.OK {
			return e
		}
	}
	return why
}

// breakAt lets the call of that number from now on be refused, and all behind it, if the device is dead then.
func (f *fault) breakAt(at int, dead, late bool) {
	f.until, f.why, f.dead, f.late = at, errBroken, dead, late
}

// refuseAt lets that call alone be refused, with that error.
func (f *fault) refuseAt(at int, why api.Errno) {
	f.until, f.why, f.dead, f.late = at, why, false, false
}

// mend lets all calls go on as they should.
func (f *fault) mend() { f.until, f.dead, f.late = 0, false, false }

// heard is all calls since the last time, and forgets them.
func (f *fault) heard() []call {
	out := f.calls
	f.calls = nil
	return out
}

// plate is a device in memory. It knows of each block what was flushed, and behind it the later writes.
type plate struct {
	fault
	blocks [][]string
}

func newPlate(blocks int) *plate {
	d := &plate{}
	for range blocks {
		d.blocks = append(d.blocks, []string{zeros})
	}
	return d
}

func (d *plate) Len() int { return len(d.blocks) }

func (d *plate) Read(b int) ([]byte, api.Errno) {
	if why, _ := d.refuses(call{'r', b, ""}); why != api.OK {
		return nil, why
	}
	return d.now(b), api.OK
}

func (d *plate) Write(b int, p []byte) api.Errno {
	return d.do(call{'w', b, string(p)}, func() api.Errno {
		d.blocks[b] = append(d.blocks[b], string(p))
		return api.OK
	})
}

func (d *plate) Flush() api.Errno {
	return d.do(call{'f', 0, ""}, func() api.Errno {
		for b, l := range d.blocks {
			d.keep(b, len(l)-1)
		}
		return api.OK
	})
}

// keep leaves of the block just what was flushed (0), or one of the later writes.
func (d *plate) keep(b, which int) { d.blocks[b] = []string{d.blocks[b][which]} }

// now is what the block reads as.
func (d *plate) now(b int) []byte { return []byte(d.blocks[b][len(d.blocks[b])-1]) }

// all is what all blocks read as.
func (d *plate) all() []string {
	var out []string
	for b := range d.blocks {
		out = append(out, string(d.now(b)))
	}
	return out
}

// lay lays bytes into a block for good.
func (d *plate) lay(b int, p []byte) { d.blocks[b] = []string{string(p)} }

// copied is a plate with the same blocks, that refuses nothing.
func (d *plate) copied() *plate {
	out := &plate{}
	for _, l := range d.blocks {
		out.blocks = append(out.blocks, slices.Clone(l))
	}
	return out
}

// crash leaves of each block what was flushed, or one of the later writes, as they are drawn; the plate works again.
func (d *plate) crash(dice *dice) {
	for b, l := range d.blocks {
		d.keep(b, dice.below(len(l)))
	}
	d.mend()
}

// crashes calls do with a copy of the plate behind each crash that there can be.
func (d *plate) crashes(do func(d *plate)) {
	var from func(d *plate, b int)
	from = func(d *plate, b int) {
		if b == len(d.blocks) {
			do(d)
			return
		}
		for which := range d.blocks[b] {
			next := d.copied()
			next.keep(b, which)
			from(next, b+1)
		}
	}
	from(d.copied(), 0)
}

// zeros is an empty block.
var zeros = string(make([]byte, api.BlockBytes))

// laid is the block of an arena in the chapter's words, also where there can be none.
func laid(stamp uint64, chunks ...string) []byte {
	out := binary.BigEndian.AppendUint64([]byte("AREN"), stamp)
	for _, c := range chunks {
		out = binary.BigEndian.AppendUint16(out, uint16(len(c)))
		out = append(out, c...)
	}
	for len(out) < api.BlockBytes {
		out = append(out, 0)
	}
	return out
}

// digest is the SHA-256, by the library.
func digest(text string) api.Digest { return sha256.Sum256([]byte(text)) }

// text is so many bytes, that hang on the seed.
func text(n, seed int) string {
	dice := dice(seed)
	out := make([]byte, n)
	for i := range out {
		out[i] = byte('a' + dice.below(26))
	}
	return string(out)
}

// want: the error, and no other.
func want(t *testing.T, name string, got, e api.Errno) {
	t.Helper()
	if got != e {
		t.Errorf("%s: error %d, want %d", name, got, e)
	}
}

// opened is the store on blocks where nothing can be wrong.
func opened(t *testing.T, d api.Blocks, first, count int) *arena.Store {
	t.Helper()
	s, e := arena.Open(d, first, count)
	if e != api.OK || s == nil {
		t.Fatalf("Open: error %d", e)
	}
	return s
}

// fresh is a plate of so many blocks, and a store on all of them.
func fresh(t *testing.T, blocks int) (*plate, *arena.Store) {
	t.Helper()
	d := newPlate(blocks)
	want(t, "Format", arena.Format(d, 0, blocks), api.OK)
	s := opened(t, d, 0, blocks)
	d.heard()
	return d, s
}

// puts: all of these are put.
func puts(t *testing.T, s *arena.Store, l ...string) {
	t.Helper()
	for _, c := range l {
		if got, e := s.Put([]byte(c)); e != api.OK || got != digest(c) {
			t.Fatalf("Put of %s: %x, error %d, want %x", brief(c), got, e, digest(c))
		}
	}
}

// refuses: the chunk is not put.
func refuses(t *testing.T, s *arena.Store, c string, e api.Errno) {
	t.Helper()
	if got, why := s.Put([]byte(c)); got != (api.Digest{}) || why != e {
		t.Errorf("Put of %s: %x, error %d, want error %d", brief(c), got, why, e)
	}
}

// drops: all of these are dropped.
func drops(t *testing.T, s *arena.Store, l ...string) {
	t.Helper()
	for _, c := range l {
		want(t, "Drop of "+brief(c), s.Drop(digest(c)), api.OK)
	}
}

// syncs: it is synced.
func syncs(t *testing.T, s *arena.Store) {
	t.Helper()
	want(t, "Sync", s.Sync(), api.OK)
}

// compacts: Compact tells so.
func compacts(t *testing.T, s *arena.Store, ok bool, e api.Errno) {
	t.Helper()
	if got, why := s.Compact(); got != ok || why != e {
		t.Errorf("Compact: %v, error %d, want %v, %d", got, why, ok, e)
	}
}

// lies: the chunk is there, in that block, with its bytes.
func lies(t *testing.T, s *arena.Store, c string, block int) {
	t.Helper()
	if b, is := s.Where(digest(c)); b != block || !is || !s.Has(digest(c)) {
		t.Errorf("Where of %s: %d, %v, want %d", brief(c), b, is, block)
	}
	if p, e := s.Get(digest(c)); string(p) != c || e != api.OK {
		t.Errorf("Get of %s: %s, error %d", brief(c), brief(string(p)), e)
	}
}

// missing: the chunk is not there.
func missing(t *testing.T, s *arena.Store, c string) {
	t.Helper()
	if b, is := s.Where(digest(c)); b != 0 || is || s.Has(digest(c)) {
		t.Errorf("Where of %s: %d, %v", brief(c), b, is)
	}
	if p, e := s.Get(digest(c)); p != nil || e != api.ErrNone {
		t.Errorf("Get of %s: %s, error %d", brief(c), brief(string(p)), e)
	}
	if !s.Has(digest(c)) {
		want(t, "Drop of what is not there", s.Drop(digest(c)), api.ErrNone)
	}
}

// tells: what the store tells of itself.
func tells(t *testing.T, s *arena.Store, count, live, dead, free int) {
	t.Helper()
	if s.Len() != count || s.Live() != live || s.Dead() != dead || s.Free() != free {
		t.Errorf("Len %d, Live %d, Dead %d, Free %d, want %d, %d, %d, %d", s.Len(), s.Live(), s.Dead(), s.Free(), count, live, dead, free)
	}
}

// hears: the device has heard these calls, and no other.
func hears(t *testing.T, name string, d *plate, l ...call) {
	t.Helper()
	if got := d.heard(); !slices.Equal(got, l) {
		t.Errorf("%s: the device has heard %s, want %s", name, told(got), told(l))
	}
}

// write, read and flush are calls.
func write(b int, p []byte) call { return call{'w', b, string(p)} }
func wipe(b int) call            { return call{'w', b, zeros} }
func read(b int) call            { return call{'r', b, ""} }
func flush() call                { return call{'f', 0, ""} }

// told is calls in a line.
func told(l []call) string {
	var out []byte
	for _, c := range l {
		out = append(out, c.kind)
		if c.kind != 'f' {
			out = append(out, byte('0'+c.block))
		}
		if c.kind == 'w' {
			out = append(out, "("+brief(c.data)+")"...)
		}
		out = append(out, ' ')
	}
	return string(out)
}

// brief is the text as far as one wants to read it.
func brief(text string) string {
	if text == zeros {
		return "zeros"
	}
	text = string(bytes.TrimRight([]byte(text), "\x00"))
	if len(text) > 40 {
		return text[:20] + ".." + text[len(text)-18:]
	}
	return text
}

// dice is numbers that look thrown, the same ones each time.
type dice uint64

// below is the next number, of 0 to n - 1.
func (d *dice) below(n int) int {
	*d = *d*6364136223846793005 + 1442695040888963407
	return int(uint64(*d) >> 33 % uint64(n))
}

// part is some of the numbers below n, none and all among them.
func (d *dice) part(n int) []int {
	var out []int
	share := d.below(5)
	for i := range n {
		if d.below(4) < share {
			out = append(out, i)
		}
	}
	return out
}

// spoil writes over all of a list, its spare room too.
func spoil[T any](l []T, with T) {
	l = l[:cap(l)]
	for i := range l {
		l[i] = with
	}
}

// spare is the bytes with room behind them that is full of x.
func spare(p []byte) []byte {
	out := append(bytes.Clone(p), bytes.Repeat([]byte{'x'}, 500)...)
	return out[:len(p)]
}
