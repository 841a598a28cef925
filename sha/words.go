package sha

// word is the number that the first four bytes of p are.
func word(p []byte) uint32 {
	return uint32(p[0])<<24 | uint32(p[1])<<16 | uint32(p[2])<<8 | uint32(p[3])
}

// long is the number that the first eight bytes of p are.
func long(p []byte) uint64 { return uint64(word(p))<<32 | uint64(word(p[4:])) }

// layWord is out with the four bytes of w behind.
func layWord(out []byte, w uint32) []byte {
	return append(out, byte(w>>24), byte(w>>16), byte(w>>8), byte(w))
}

// layLong is out with the eight bytes of n behind.
func layLong(out []byte, n uint64) []byte {
	return layWord(layWord(out, uint32(n>>32)), uint32(n))
}

// layState is out with the state's words behind.
func layState(out []byte, state *[8]uint32) []byte {
	for _, w := range state {
		out = layWord(out, w)
	}
	return out
}
