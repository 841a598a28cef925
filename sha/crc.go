package sha

// quads is what the chapter's register comes to when its low four bits, which are the index, have moved out: four bits at once go faster than one by one, and the table stays short.
var quads = [16]uint32{
	0x00000000, 0x105ec76f, 0x20bd8ede, 0x30e349b1, 0x417b1dbc, 0x5125dad3, 0x61c69362, 0x7198540d,
	0x82f63b78, 0x92a8fc17, 0xa24bb5a6, 0xb21572c9, 0xc38d26c4, 0xd3d3e1ab, 0xe330a81a, 0xf36e6f75,
}

// Crc: P5.5.
func Crc(p []byte) uint32 { return More(0, p) }

// More: P5.5. To turn all bits of a sum gives back the register it came from; 0 is the sum of no bytes.
func More(crc uint32, p []byte) uint32 {
	register := ^crc
	for _, b := range p {
		register ^= uint32(b)
		register = register>>4 ^ quads[register&15]
		register = register>>4 ^ quads[register&15]
	}
	return ^register
}
