package merkle_test

import (
	"bytes"
	"crypto/sha256"
	"encoding/hex"
	"maps"
	"slices"
	"strings"
	"testing"

	"granary/api"
	"granary/inode"
	"granary/merkle"
)

// errBroken is what a shelf answers where it is made to refuse: no number of the document's.
const errBroken api.Errno = 999

// none is the zero digest.
var none api.Digest

// call is one that a store has heard: put or get, of which chunk.
type call struct {
	kind   byte
	digest api.Digest
}

// shelf is a store in memory, that knows what it has heard, and refuses at a call.
type shelf struct {
	plain
	calls []call
	until int       // the call that is refused, from 1 on; 0: none
	why   api.Errno // the error that it is refused with
}

func newShelf() *shelf { return &shelf{plain: plain{}} }

// on is a shelf with these chunks.
func on(m plain) *shelf { return &shelf{plain: maps.Clone(m)} }

func (s *shelf) Put(p []byte) (api.Digest, api.Errno) {
	d := api.Digest(sha256.Sum256(p))
	if e := s.refuses(call{'p', d}); e != api.OK {
		return d, e
	}
	s.plain[d] = string(p)
	return d, api.OK
}

func (s *shelf) Get(d api.Digest) ([]byte, api.Errno) {
	if e := s.refuses(call{'g', d}); e != api.OK {
		return []byte(s.plain[d]), e
	}
	c, is := s.plain[d]
	if !is {
		return []byte("none"), api.ErrNone
	}
	return []byte(c), api.OK
}

// refuses takes the call down, and tells the error that it is refused with.
func (s *shelf) refuses(c call) api.Errno {
	s.calls = append(s.calls, c)
	s.until--
	if s.until == 0 {
		return s.why
	}
	return api.OK
}

// refuseAt lets the call of that number from now on be refused, with that error.
func (s *shelf) refuseAt(at int, why api.Errno) { s.until, s.why = at, why }

// heard is all calls since the last time, and forgets them.
func (s *shelf) heard() []call {
	out := s.calls
	s.calls = nil
	return out
}

// lay lays a chunk under its digest.
func (p plain) lay(c string) api.Digest {
	d := digest(c)
	p[d] = c
	return d
}

// digest is the SHA-256, by the library.
func digest(text string) api.Digest { return sha256.Sum256([]byte(text)) }

// hexed is the digest of that text.
func hexed(t *testing.T, text string) api.Digest {
	t.Helper()
	p, err := hex.DecodeString(text)
	if err != nil || len(p) != 32 {
		t.Fatalf("%s is no digest", text)
	}
	return api.Digest(p)
}

// text is so many bytes, that hang on the seed.
func text(n, seed int) string {
	dice := dice(seed)
	out := make([]byte, n)
	for i := range out {
		out[i] = byte(dice.below(256))
	}
	return string(out)
}

// zeros is so many bytes.
func zeros(n int) string { return strings.Repeat("\x00", n) }

// want: the error, and no other.
func want(t *testing.T, name string, got, e api.Errno) {
	t.Helper()
	if got != e {
		t.Errorf("%s: error %d, want %d", name, got, e)
	}
}

// puts puts an object of that kind.
func puts(t *testing.T, s api.Chunks, kind byte, p string) api.Digest {
	t.Helper()
	d, e := merkle.Put(s, kind, []byte(p))
	if e != api.OK {
		t.Fatalf("Put of %d bytes: error %d", len(p), e)
	}
	return d
}

// putsDir puts a directory.
func putsDir(t *testing.T, s api.Chunks, l ...api.Item) api.Digest {
	t.Helper()
	d, e := merkle.PutDir(s, l)
	if e != api.OK {
		t.Fatalf("PutDir of %s: error %d", names(l), e)
	}
	return d
}

// names is those of the items, in a line.
func names(l []api.Item) string {
	var out []string
	for _, x := range l {
		out = append(out, x.Name)
	}
	return strings.Join(out, " ")
}

// inodeOf is an inode of that kind that inode.Check takes, and that hangs on the number.
func inodeOf(kind int, number uint64) api.Inode {
	x := api.Inode{Number: number, Generation: uint32(number%7) + 1, Kind: kind, Mode: 0o644, Links: 1, Uid: 5, Gid: 6, Atime: 7, Mtime: number, Ctime: 9}
	if kind == api.KindLink {
		x.Target = strings.Repeat("t", int(number%9)+1)
		x.Size = uint64(len(x.Target))
		return x
	}
	x.Root = number + 1000
	return x
}

// fileItem, dirItem and linkItem are items that PutDir takes.
func fileItem(name string, cookie uint64, d api.Digest) api.Item {
	return api.Item{Name: name, Cookie: cookie, Inode: inodeOf(api.KindFile, 100), Object: d}
}

func dirItem(name string, cookie uint64, d api.Digest) api.Item {
	return api.Item{Name: name, Cookie: cookie, Inode: inodeOf(api.KindDir, 200), Object: d}
}

func linkItem(name string, cookie uint64) api.Item {
	return api.Item{Name: name, Cookie: cookie, Inode: inodeOf(api.KindLink, 300)}
}

// many is so many items of all kinds, the objects of which are made up.
func many(n int) []api.Item {
	var out []api.Item
	for i := range n {
		x := fileItem(numbered(i), uint64(3+2*i), digest(numbered(i)))
		switch i % 3 {
		case 1:
			x.Inode = inodeOf(api.KindDir, uint64(i))
		case 2:
			x.Inode, x.Object = inodeOf(api.KindLink, uint64(i)), none
		}
		out = append(out, x)
	}
	return out
}

// numbered is a name, the longer the greater the number.
func numbered(i int) string {
	return strings.Repeat("n", i%20) + string(rune('a'+i%26)) + string(rune('a'+i/26%26)) + string(rune('a'+i/676))
}

// edges is the lengths at which the chunks of an object change.
func edges() []int {
	out := []int{0, 1, 255, 256, 257, 300, 511, 512, 513, 2047, 2048, 2049, 2304, 2305, 4096, 4097, 16383, 16384, 16385, 16640, 16641, 18432, 18433, 131072, 131073}
	return append(out, 9*256, 17*256+1, 65*256, 65*256+1, 72*256, 73*256+5)
}

// answer is what a call has answered, in one form for all of them.
type answer struct {
	bytes   string
	digests []api.Digest
	items   []api.Item
	found   []api.Differ
	kind    byte
	size    uint64
	err     api.Errno
}

// same: they are alike.
func same(a, b answer) bool {
	return a.bytes == b.bytes && slices.Equal(a.digests, b.digests) && slices.Equal(a.items, b.items) && slices.Equal(a.found, b.found) && a.kind == b.kind && a.size == b.size && a.err == b.err
}

// ask is a call that reads, of the package and of the plain account.
type ask struct {
	name string
	real func(s api.Chunks) answer
	told func(p plain) answer
}

// asks is all calls that read of one digest; Read at these places.
func asks(d api.Digest, places ...span) []ask {
	out := []ask{
		{"Size", func(s api.Chunks) (a answer) { a.kind, a.size, a.err = merkle.Size(s, d); return }, func(p plain) (a answer) { a.kind, a.size, a.err = p.size(d); return }},
		{"GetDir", func(s api.Chunks) (a answer) { a.items, a.err = merkle.GetDir(s, d); return }, func(p plain) (a answer) { a.items, a.err = p.dir(d); return }},
		{"Children", func(s api.Chunks) (a answer) { a.digests, a.err = merkle.Children(s, d); return }, func(p plain) (a answer) { a.digests, a.err = p.children(d); return }},
		{"Reach", func(s api.Chunks) (a answer) { a.digests, a.err = merkle.Reach(s, d); return }, func(p plain) (a answer) { a.digests, a.err = p.reach(d); return }},
	}
	for _, x := range places {
		out = append(out, reads(d, x.at, x.n))
	}
	return out
}

// span is bytes from a place on.
type span struct {
	at uint64
	n  int
}

// reads is Read.
func reads(d api.Digest, at uint64, n int) ask {
	real := func(s api.Chunks) (a answer) {
		p, e := merkle.Read(s, d, at, n)
		return answer{bytes: string(p), err: e}
	}
	told := func(p plain) (a answer) {
		a.bytes, _, a.err = p.read(d, at, n)
		return
	}
	return ask{"Read", real, told}
}

// diffs is Diff.
func diffs(a, b api.Digest) ask {
	real := func(s api.Chunks) (x answer) { x.found, x.err = merkle.Diff(s, a, b); return }
	told := func(p plain) (x answer) { x.found, x.err = p.diff(a, b, ""); return }
	return ask{"Diff", real, told}
}

// agrees: the package answers what the account does, and puts nothing.
func agrees(t *testing.T, s *shelf, l ...ask) {
	t.Helper()
	for _, x := range l {
		s.heard()
		got, w := x.real(s), x.told(s.plain)
		if !same(got, w) {
			t.Errorf("%s: %s, want %s", x.name, brief(got), brief(w))
		}
		for _, c := range s.heard() {
			if c.kind != 'g' {
				t.Errorf("%s puts", x.name)
			}
		}
	}
}

// brief is an answer as far as one wants to read it.
func brief(a answer) string {
	var out []string
	if a.err != api.OK {
		out = append(out, a.err.Error())
	}
	if a.bytes != "" {
		out = append(out, hex.EncodeToString([]byte(a.bytes[:min(len(a.bytes), 40)])))
	}
	for _, d := range a.digests[:min(len(a.digests), 20)] {
		out = append(out, hex.EncodeToString(d[:4]))
	}
	if len(a.items) > 0 {
		out = append(out, names(a.items))
	}
	for _, x := range a.found {
		sign := "-"
		if x.Is {
			sign = "+"
		}
		if x.Is && x.Was {
			sign = "!"
		}
		out = append(out, sign+x.Path)
	}
	if a.kind != 0 {
		out = append(out, string(a.kind))
	}
	return strings.Join(out, " ")
}

// refusedEach: whichever call of the store is refused, with whatever error, that is the answer, and no call comes behind it.
func refusedEach(t *testing.T, name string, s *shelf, do func(s api.Chunks) answer) {
	t.Helper()
	kept := maps.Clone(s.plain)
	s.heard()
	if a := do(s); a.err != api.OK {
		t.Fatalf("%s: error %d", name, a.err)
	}
	calls := len(s.heard())
	for _, e := range []api.Errno{errBroken, api.ErrNone, api.ErrArg, api.ErrObject, -3} {
		for at := 1; at <= calls; at++ {
			s.plain = maps.Clone(kept)
			s.refuseAt(at, e)
			if a := do(s); !same(a, answer{err: e}) {
				t.Errorf("%s, refused at the call %d: %s, want error %d alone", name, at, brief(a), e)
			}
			if n := len(s.heard()); n != at {
				t.Errorf("%s, refused at the call %d: %d calls", name, at, n)
			}
		}
	}
	if calls == 0 {
		t.Errorf("%s calls nothing", name)
	}
	s.plain = kept
}

// putAnswer is what Put or PutDir has answered: beside an error whatever digest there is, and else just that it is OK.
func putAnswer(d api.Digest, e api.Errno) answer {
	if e == api.OK || d == none {
		return answer{err: e}
	}
	return answer{digests: []api.Digest{d}, err: e}
}

// dice is numbers that look thrown, the same ones each time.
type dice uint64

// below is the next number, of 0 to n - 1.
func (d *dice) below(n int) int {
	*d = *d*6364136223846793005 + 1442695040888963407
	return int(uint64(*d) >> 33 % uint64(n))
}

// spoil writes over all of a list, its spare room too.
func spoil[T any](l []T, with T) {
	l = l[:cap(l)]
	for i := range l {
		l[i] = with
	}
}

// spare is the bytes with room behind them that is full of x.
func spare(p string) []byte {
	out := append([]byte(p), bytes.Repeat([]byte{'x'}, 500)...)
	return out[:len(p)]
}

// inodeFaults is inodes that inode.Check refuses, each otherwise.
func inodeFaults() []api.Inode {
	link := inodeOf(api.KindLink, 3)
	link.Size++
	out := []api.Inode{link}
	for _, do := range []func(x *api.Inode){
		func(x *api.Inode) { x.Number = 0 }, func(x *api.Inode) { x.Generation = 0 }, func(x *api.Inode) { x.Kind = 3 }, func(x *api.Inode) { x.Mode = 4096 },
		func(x *api.Inode) { x.Links = api.MaxLinks + 1 }, func(x *api.Inode) { x.Size = api.MaxFile + 1 }, func(x *api.Inode) { x.Target = "a" },
		func(x *api.Inode) { x.Target = strings.Repeat("a", api.MaxTarget+1) }, func(x *api.Inode) { *x = api.Inode{} },
	} {
		x := inodeOf(api.KindFile, 3)
		do(&x)
		out = append(out, x)
	}
	for _, x := range out {
		if inode.Check(x) == api.OK {
			panic("no fault")
		}
	}
	return out
}
