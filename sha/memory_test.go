package sha_test

import (
	"bytes"
	"slices"
	"testing"

	"granary/api"
	"granary/sha"
)

// Rule 3: bytes that are handed in are not changed, nor their spare room, and not kept.
func TestBytesUnchanged(t *testing.T) {
	dice := dice(77)
	for _, n := range []int{0, 1, 55, 56, 63, 64, 65, 119, 120, 128, 200} {
		p := dice.bytes(n)
		in := roomy(p)
		h := sha.New()
		h.Write(in)
		for _, d := range []api.Digest{sha.Sum(in), h.Sum()} {
			if d != school(p) {
				t.Errorf("the digest of %d bytes: %x", n, d)
			}
		}
		if sha.More(sha.Crc(in), in) != schoolCrc(append(bytes.Clone(p), p...)) {
			t.Errorf("the Crc of %d bytes twice", n)
		}
		if !isRoomy(in, p) {
			t.Errorf("%d bytes were changed: %x", n, in[:cap(in)])
		}
		spoil(in)
		has(t, "behind a change of what was written", h, p)
	}
}

// Rule 3: Load keeps nothing of its bytes, and Save answers new ones each time, spare room too.
func TestSavedShared(t *testing.T) {
	dice := dice(78)
	for n := range 130 {
		p := dice.bytes(n)
		want := schoolSave(t, p)
		in := roomy(want)
		h := loaded(t, in)
		if !isRoomy(in, want) {
			t.Fatalf("Load behind %d changed its bytes: %x", n, in[:cap(in)])
		}
		spoil(in)
		has(t, "behind a change of what was loaded", h, p)
		first, second := h.Save(), h.Save()
		spoil(first)
		if !bytes.Equal(second, want) || !bytes.Equal(h.Save(), want) {
			t.Fatalf("two answers of Save behind %d share memory", n)
		}
		has(t, "behind a change of what was saved", h, p)
		h.Write([]byte("more"))
		if !bytes.Equal(second, want) {
			t.Fatalf("what was saved behind %d changes with the hash", n)
		}
	}
}

// Rule 3: what is refused is not changed either.
func TestRefusedUnchanged(t *testing.T) {
	for _, n := range []int{0, 1, 39, 41, 104} {
		p := make([]byte, n)
		in := roomy(p)
		refused(t, "wrong length", in)
		if !isRoomy(in, p) {
			t.Errorf("Load of %d bytes changed them: %x", n, in[:cap(in)])
		}
	}
}

// spoilDigests writes over all of l, its spare room too.
func spoilDigests(l []api.Digest) {
	l = l[:cap(l)]
	for i := range l {
		spoil(l[i][:])
	}
}

// Rule 3: lists of digests are not changed, nor their spare room, and answers are new each time.
func TestDigestsUnchanged(t *testing.T) {
	dice := dice(79)
	whole := dice.digests(24)
	in := slices.Clone(whole)
	for n := range 12 {
		sha.Root(in[:n])
		for i := -1; i <= n; i++ {
			path, _ := sha.Path(in[:n], i)
			sha.Climb(in[0], i, n, in[:len(path)])
			sha.Climb(in[0], i, n, in[:len(path)+1])
		}
	}
	if !slices.Equal(in, whole) {
		t.Fatal("the digests were changed")
	}
	for i := range 13 {
		want := schoolPath(whole[:13], i)
		first, _ := sha.Path(in[:13], i)
		second, _ := sha.Path(in[:13], i)
		spoilDigests(first)
		if !slices.Equal(in, whole) || !slices.Equal(second, want) {
			t.Fatalf("the Path of %d shares memory with the digests or another Path", i)
		}
		other := slices.Clone(in)
		third, _ := sha.Path(other[:13], i)
		spoilDigests(other)
		if !slices.Equal(third, want) {
			t.Fatalf("the Path of %d shares memory with the digests", i)
		}
	}
}
