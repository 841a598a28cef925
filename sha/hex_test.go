package sha_test

import (
	"encoding/hex"
	"strings"
	"testing"

	"granary/api"
	"granary/sha"
)

// wantParse: the digest, the error, the place.
func wantParse(t *testing.T, s string, d api.Digest, e api.Errno, at int) {
	t.Helper()
	if gotD, gotE, gotAt := sha.Parse(s); gotD != d || gotE != e || gotAt != at {
		t.Fatalf("Parse(%q): %x, error %d, place %d, want %x, %d, %d", s, gotD, gotE, gotAt, d, e, at)
	}
}

// strangers is bytes that are no digit: capital letters, those beside the digits, and such as look like some of a number's.
func strangers() []byte {
	var out []byte
	for b := range 256 {
		if !strings.ContainsRune("0123456789abcdef", rune(b)) {
			out = append(out, byte(b))
		}
	}
	return out
}

// P5.4: digits of all bytes, at all places.
func TestHex(t *testing.T) {
	for b := range 256 {
		for at := range 32 {
			var d api.Digest
			d[at] = byte(b)
			s := hex.EncodeToString(d[:])
			if sha.Hex(d) != s {
				t.Fatalf("Hex(%x): %s", d, sha.Hex(d))
			}
			wantParse(t, s, d, api.OK, 0)
		}
	}
	dice := dice(59)
	for _, d := range dice.digests(200) {
		s := hex.EncodeToString(d[:])
		if sha.Hex(d) != s {
			t.Fatalf("Hex(%x): %s", d, sha.Hex(d))
		}
		wantParse(t, s, d, api.OK, 0)
	}
}

// P5.4: every byte that is no digit, at every place: the first one is told.
func TestParseStrangers(t *testing.T) {
	dice := dice(60)
	d := dice.digests(1)[0]
	for _, b := range strangers() {
		for at := range 64 {
			s := []byte(sha.Hex(d))
			s[at] = b
			wantParse(t, string(s), api.Digest{}, api.ErrHex, at)
			for _, second := range []int{at + 1, 63} {
				if second > at && second < 64 {
					two := []byte(string(s))
					two[second] = b
					wantParse(t, string(two), api.Digest{}, api.ErrHex, at)
				}
			}
		}
	}
}

// P5.4: the text is too short, or too long.
func TestParseLengths(t *testing.T) {
	dice := dice(61)
	for _, d := range append(dice.digests(3), api.Digest{}) {
		s := sha.Hex(d)
		for n := range 64 {
			wantParse(t, s[:n], api.Digest{}, api.ErrShort, n)
		}
		for n := 1; n < 130; n++ {
			wantParse(t, s+strings.Repeat("f", n), api.Digest{}, api.ErrTail, 64)
		}
		wantParse(t, s+s, api.Digest{}, api.ErrTail, 64)
	}
}

// P5.4: two faults at once: a byte that is no digit comes ahead of the length, but only among the first 64.
func TestParseTwoFaults(t *testing.T) {
	dice := dice(62)
	s := sha.Hex(dice.digests(1)[0])
	for _, b := range []string{"x", "A", "F", "/", ":", "`", "g", "G", "@", " ", "-", "\x00", "\xff"} {
		for at := range 64 {
			short := s[:at] + b
			wantParse(t, short, api.Digest{}, api.ErrHex, at)
			wantParse(t, short+s[at+1:]+"0", api.Digest{}, api.ErrHex, at)
			wantParse(t, short+s[at+1:]+b, api.Digest{}, api.ErrHex, at)
			if at > 1 {
				wantParse(t, b+s[:at-1], api.Digest{}, api.ErrHex, 0)
			}
		}
		wantParse(t, s+b, api.Digest{}, api.ErrTail, 64)
		wantParse(t, s+"0"+b, api.Digest{}, api.ErrTail, 64)
	}
	wantParse(t, "", api.Digest{}, api.ErrShort, 0)
	wantParse(t, "x", api.Digest{}, api.ErrHex, 0)
	wantParse(t, "00", api.Digest{}, api.ErrShort, 2)
	wantParse(t, strings.ToUpper(sha.Hex(school([]byte("abc")))), api.Digest{}, api.ErrHex, 0)
	wantParse(t, "é"+s[2:], api.Digest{}, api.ErrHex, 0)
	wantParse(t, s[:3]+"é", api.Digest{}, api.ErrHex, 3)
}
