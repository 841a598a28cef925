package sha_test

import (
	"bytes"
	"crypto/sha256"
	"encoding"
	"encoding/binary"
	"encoding/hex"
	"strings"
	"testing"

	"granary/api"
	"granary/sha"
)

// school is the digest of the pieces, one behind the other, by the library.
func school(pieces ...[]byte) api.Digest {
	return sha256.Sum256(bytes.Join(pieces, nil))
}

// magic stands ahead of what the library saves of a hash.
const magic = "sha\x03"

// schoolSave is what a hash of p saves, by the library's words on its own hash: the state, 64 bytes, the length.
func schoolSave(t *testing.T, p []byte) []byte {
	t.Helper()
	h := sha256.New()
	h.Write(p)
	all, err := h.(encoding.BinaryMarshaler).MarshalBinary()
	if err != nil || !bytes.HasPrefix(all, []byte(magic)) {
		t.Fatalf("the library saves %x, %v", all, err)
	}
	return saved(all[4:36], uint64(len(p)), p[len(p)/64*64:])
}

// schoolSum is the digest of what was saved, with p behind it, by the library.
func schoolSum(t *testing.T, state []byte, length uint64, left, p []byte) api.Digest {
	t.Helper()
	all := append([]byte(magic), state...)
	all = append(all, left...)
	all = append(all, make([]byte, 64-len(left))...)
	all = binary.BigEndian.AppendUint64(all, length)
	h := sha256.New()
	if err := h.(encoding.BinaryUnmarshaler).UnmarshalBinary(all); err != nil {
		t.Fatal(err)
	}
	h.Write(p)
	return api.Digest(h.Sum(nil))
}

// saved is the bytes of P5.3.
func saved(state []byte, length uint64, left []byte) []byte {
	out := binary.BigEndian.AppendUint64(bytes.Clone(state), length)
	return append(out, left...)
}

// digest is the one whose digits the text has, with blanks between.
func digest(t *testing.T, text string) api.Digest {
	t.Helper()
	p, err := hex.DecodeString(strings.ReplaceAll(text, " ", ""))
	if err != nil || len(p) != 32 {
		t.Fatalf("%s is no digest: %v", text, err)
	}
	return api.Digest(p)
}

// hashed is a hash to which the pieces came.
func hashed(pieces ...[]byte) *sha.Hash {
	h := sha.New()
	for _, p := range pieces {
		h.Write(p)
	}
	return h
}

// loaded is the hash that was saved so, where nothing can be wrong.
func loaded(t *testing.T, p []byte) *sha.Hash {
	t.Helper()
	h, e := sha.Load(p)
	if e != api.OK || h == nil {
		t.Fatalf("Load of %d bytes: error %d", len(p), e)
	}
	return h
}

// has: the hash is that of just these bytes.
func has(t *testing.T, name string, h *sha.Hash, p []byte) {
	t.Helper()
	if h.Len() != uint64(len(p)) || h.Sum() != school(p) {
		t.Fatalf("%s: Len %d, Sum %x, want %d, %x", name, h.Len(), h.Sum(), len(p), school(p))
	}
}

// schoolCrc is the register of P5.5, bit by bit.
func schoolCrc(p []byte) uint32 {
	register := uint32(0xffffffff)
	for _, b := range p {
		register ^= uint32(b)
		for range 8 {
			out := register & 1
			register >>= 1
			if out == 1 {
				register ^= 0x82f63b78
			}
		}
	}
	return register ^ 0xffffffff
}

// schoolUp is the digests above a level: two by two, one that is alone goes up as it is. That is the same tree as that of P5.6, from below.
func schoolUp(level []api.Digest) []api.Digest {
	var up []api.Digest
	for i := 0; i < len(level); i += 2 {
		if i+1 == len(level) {
			up = append(up, level[i])
		} else {
			up = append(up, school([]byte{1}, level[i][:], level[i+1][:]))
		}
	}
	return up
}

// schoolRoot is the Root of the digests, level by level.
func schoolRoot(l []api.Digest) api.Digest {
	if len(l) == 0 {
		return school()
	}
	for len(l) > 1 {
		l = schoolUp(l)
	}
	return l[0]
}

// schoolPath is the neighbours of i, level by level.
func schoolPath(l []api.Digest, i int) []api.Digest {
	var path []api.Digest
	for ; len(l) > 1; l, i = schoolUp(l), i/2 {
		if i^1 < len(l) {
			path = append(path, l[i^1])
		}
	}
	return path
}

// dice is numbers that look thrown, the same ones each time.
type dice uint64

// below is the next number, of 0 to n - 1.
func (d *dice) below(n int) int {
	*d = *d*6364136223846793005 + 1442695040888963407
	return int(uint64(*d) >> 33 % uint64(n))
}

// bytes is n bytes.
func (d *dice) bytes(n int) []byte {
	p := make([]byte, n)
	for i := range p {
		p[i] = byte(d.below(256))
	}
	return p
}

// digests is n digests.
func (d *dice) digests(n int) []api.Digest {
	out := make([]api.Digest, n)
	for i := range out {
		out[i] = api.Digest(d.bytes(32))
	}
	return out
}

// pieces is p in pieces of 0 to most bytes.
func (d *dice) pieces(p []byte, most int) [][]byte {
	var out [][]byte
	for len(p) > 0 {
		n := min(d.below(most+1), len(p))
		out = append(out, p[:n])
		p = p[n:]
	}
	return out
}

// spoil writes over all of p, its spare room too.
func spoil(p []byte) {
	p = p[:cap(p)]
	for i := range p {
		p[i] = 0xee
	}
}

// roomy is the bytes of s in a list with spare room, which is told by its bytes.
func roomy(s []byte) []byte {
	p := make([]byte, len(s)+9)
	spoil(p)
	copy(p, s)
	return p[:len(s)]
}

// isRoomy: p is as roomy made it of s.
func isRoomy(p, s []byte) bool {
	return len(p) == len(s) && bytes.Equal(p[:cap(p)], roomy(s)[:len(s)+9])
}
