package sha

import (
	"strings"

	"granary/api"
)

// digits is the hexadecimal digits, each at its value.
const digits = "0123456789abcdef"

// hexBytes is how long a digest's text is.
const hexBytes = 64

// Hex: P5.4.
func Hex(d api.Digest) string {
	out := make([]byte, 0, hexBytes)
	for _, b := range d {
		out = append(out, digits[b>>4], digits[b&15])
	}
	return string(out)
}

// Parse: P5.4.
func Parse(s string) (api.Digest, api.Errno, int) {
	var d api.Digest
	for i := range min(len(s), hexBytes) {
		n := strings.IndexByte(digits, s[i])
		if n < 0 {
			return api.Digest{}, api.ErrHex, i
		}
		d[i/2] = d[i/2]<<4 | byte(n)
	}
	switch {
	case len(s) < hexBytes:
		return api.Digest{}, api.ErrShort, len(s)
	case len(s) > hexBytes:
		return api.Digest{}, api.ErrTail, hexBytes
	}
	return d, api.OK, 0
}
