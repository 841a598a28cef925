package arena_test

import (
	"bytes"
	"slices"
	"testing"

	"granary/api"
	"granary/arena"
)

// TestHandedIn: nothing that is handed in is changed, its spare room neither (rule 3).
func TestHandedIn(t *testing.T) {
	_, s := fresh(t, 4)
	for _, c := range []string{"", "a", "a", text(300, 1), text(200, 2), text(301, 1)} {
		p := spare([]byte(c))
		kept := bytes.Clone(p[:cap(p)])
		s.Put(p)
		arena.GetBlock(p)
		if !bytes.Equal(p[:cap(p)], kept) {
			t.Errorf("Put has changed what was handed in")
		}
	}
	for _, b := range [][]byte{laid(1, "a", "b"), laid(0, "a"), []byte(zeros), nil} {
		p := spare(b)
		kept := bytes.Clone(p[:cap(p)])
		arena.GetBlock(p)
		if !bytes.Equal(p[:cap(p)], kept) {
			t.Errorf("GetBlock has changed what was handed in")
		}
	}
	for _, l := range [][]string{{"a", "b", text(300, 1)}, {"a", text(301, 1)}} {
		x := api.Arena{Stamp: 5, Chunks: append(chunks(l...), make([][]byte, 9)...)}
		for i := range x.Chunks {
			x.Chunks[i] = spare(x.Chunks[i])
		}
		whole := x.Chunks
		x.Chunks = whole[:len(l)]
		arena.PutBlock(x)
		for i, c := range whole {
			was := ""
			if i < len(l) {
				was = l[i]
			}
			if string(c) != was || c[:cap(c)][len(c)] != 'x' {
				t.Errorf("PutBlock has changed the chunk %d", i)
			}
		}
	}
}

// TestNotKept: what is handed in may be changed behind (rule 3).
func TestNotKept(t *testing.T) {
	d, s := fresh(t, 4)
	for _, c := range []string{"a", text(300, 1), text(200, 2)} {
		p := spare([]byte(c))
		s.Put(p)
		spoil(p, '!')
		p = spare([]byte(c))
		s.Put(p) // it is there
		spoil(p, '?')
	}
	lies(t, s, text(200, 2), 1)
	syncs(t, s)
	s = opened(t, d, 0, 4)
	lies(t, s, "a", 0)
	lies(t, s, text(300, 1), 0)
	lies(t, s, text(200, 2), 1)
	b := spare(laid(3, "ab", "c"))
	x, _ := arena.GetBlock(b)
	spoil(b, '!')
	if !sameArena(x, api.Arena{Stamp: 3, Chunks: chunks("ab", "c")}) {
		t.Errorf("GetBlock keeps its argument: %v", x)
	}
	x = api.Arena{Stamp: 3, Chunks: chunks("ab", "c")}
	b, _ = arena.PutBlock(x)
	spoil(x.Chunks[0], '!')
	if !bytes.Equal(b, laid(3, "ab", "c")) {
		t.Errorf("PutBlock keeps its argument")
	}
}

// TestAnswersAreNew: whoever writes over an answer, its spare room too, changes neither the store nor another answer (rule 3).
func TestAnswersAreNew(t *testing.T) {
	d, s := fresh(t, 4)
	all := []string{"a", "b", text(300, 1), text(200, 2), "c"}
	puts(t, s, all...)
	for range 2 {
		for _, c := range all {
			p, _ := s.Get(digest(c))
			q, _ := s.Get(digest(c))
			spoil(p, '!')
			if string(q) != c {
				t.Errorf("two answers of Get of %s share bytes", brief(c))
			}
			spoil(q, '?')
			b, _ := s.Where(digest(c))
			lies(t, s, c, b)
		}
		l, again := s.List(), s.List()
		kept := slices.Clone(again)
		spoil(l, api.Digest{})
		if !slices.Equal(again, kept) || !slices.Equal(s.List(), kept) {
			t.Errorf("List shares its digests")
		}
		syncs(t, s)
	}
	b, _ := arena.PutBlock(api.Arena{Stamp: 3, Chunks: chunks("ab", "c")})
	c, _ := arena.PutBlock(api.Arena{Stamp: 3, Chunks: chunks("ab", "c")})
	spoil(b, '!')
	if !bytes.Equal(c, laid(3, "ab", "c")) {
		t.Errorf("PutBlock shares its bytes")
	}
	x, _ := arena.GetBlock(c)
	y, _ := arena.GetBlock(c)
	for i := range x.Chunks {
		spoil(x.Chunks[i], '!')
		if i+1 < len(x.Chunks) && string(x.Chunks[i+1]) != "c" {
			t.Errorf("the chunks of GetBlock share bytes")
		}
	}
	spoil(x.Chunks, nil)
	if !sameArena(y, api.Arena{Stamp: 3, Chunks: chunks("ab", "c")}) || !bytes.Equal(c, laid(3, "ab", "c")) {
		t.Errorf("GetBlock shares its bytes")
	}
	syncs(t, s)
	again := opened(t, d, 0, 4)
	if !slices.Equal(again.List(), s.List()) {
		t.Errorf("another store has other chunks")
	}
}

// keeper is a device that keeps the very lists that are written to it, and hands these out.
type keeper struct {
	*plate
	kept [][]byte
	was  []string
	told [][]byte
}

// Write is api.Blocks'.
func (k *keeper) Write(b int, p []byte) api.Errno {
	k.kept, k.was = append(k.kept, p), append(k.was, string(p))
	return k.plate.Write(b, p)
}

// Read is api.Blocks'.
func (k *keeper) Read(b int) ([]byte, api.Errno) {
	p, e := k.plate.Read(b)
	p = spare(p)
	k.told = append(k.told, p)
	return p, e
}

// TestKeptByDevice: what the device was handed is not changed behind, nor used again; and what it answered is not kept (rule 3).
func TestKeptByDevice(t *testing.T) {
	d := &keeper{plate: newPlate(4)}
	want(t, "Format", arena.Format(d, 0, 4), api.OK)
	for i := range d.kept {
		for k := range d.kept[:i] {
			if &d.kept[i][0] == &d.kept[k][0] {
				t.Fatalf("Format writes the same list twice")
			}
		}
	}
	s := opened(t, d, 0, 4)
	puts(t, s, "a", text(300, 1), text(300, 2))
	drops(t, s, "a")
	syncs(t, s)
	puts(t, s, "b", "a")
	drops(t, s, text(300, 1))
	syncs(t, s)
	for i := range d.kept {
		if string(d.kept[i]) != d.was[i] {
			t.Errorf("the write %d was changed behind", i)
		}
		spoil(d.kept[i], '?')
	}
	puts(t, s, "c")
	syncs(t, s)
	s = opened(t, d, 0, 4)
	for _, p := range d.told {
		spoil(p, '?')
	}
	lies(t, s, "a", 1)
	lies(t, s, "b", 1)
	lies(t, s, "c", 1)
	lies(t, s, text(300, 2), 1)
	drops(t, s, "c")
	compacts(t, s, true, api.OK)
	lies(t, s, text(300, 2), 0)
	for _, p := range d.told {
		spoil(p, '?')
	}
	p, _ := s.Get(digest("b"))
	for _, q := range d.told {
		spoil(q, '?')
	}
	if string(p) != "b" {
		t.Errorf("Get answers the device's list")
	}
	syncs(t, s)
	s = opened(t, d.plate, 0, 4)
	for _, c := range []string{"a", "b", text(300, 2)} {
		lies(t, s, c, 0)
	}
}

// TestSameEachTime: the same calls tell the same, whatever map there is (rule 4).
func TestSameEachTime(t *testing.T) {
	var first []call
	var list []api.Digest
	for n := range 20 {
		d, s := fresh(t, 12)
		dice := dice(8)
		for range 300 {
			c := text(1+dice.below(60), dice.below(50))
			switch n := dice.below(10); {
			case n < 5:
				s.Put([]byte(c))
			case n < 8:
				s.Drop(digest(c))
			case n < 9:
				s.Sync()
			default:
				s.Compact()
			}
		}
		calls := d.heard()
		if n == 0 {
			first, list = calls, s.List()
		}
		if !slices.Equal(calls, first) || !slices.Equal(s.List(), list) {
			t.Fatalf("the device has heard %s, and the first time %s", told(calls), told(first))
		}
	}
}
