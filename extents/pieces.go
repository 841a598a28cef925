package extents

import (
	"math"

	"granary/api"
)

// The tree has a key for each piece that is there: a letter, the content's number, and the piece's; it has the number of the piece's block.
const (
	letter     = 'x'
	longBytes  = 8 // of a content's number, and of a block's: a space may count by any ints
	wordBytes  = 4 // of a piece's number
	headBytes  = 1 + longBytes
	keyBytes   = headBytes + wordBytes
	mostPieces = (api.MaxFile + api.BlockBytes - 1) / api.BlockBytes // of a content
)

// piece is a piece of a content: whether it is there, and its block then.
type piece struct {
	ino    uint64
	number int
	there  bool
	block  int
}

// key is the piece's key.
func (x piece) key() []byte { return pieceKey(x.ino, x.number) }

func pieceKey(ino uint64, number int) []byte {
	head := layNumber([]byte{letter}, ino, longBytes)
	return layNumber(head, uint64(number), wordBytes)
}

// blockValue is what the key of a piece with that block has.
func blockValue(block int) []byte { return layNumber(nil, uint64(block), longBytes) }

// layNumber is out with the number behind it, in so many bytes, the highest first: so keys are in the order of their numbers.
func layNumber(out []byte, n uint64, size int) []byte {
	for i := size - 1; i >= 0; i-- {
		out = append(out, byte(n>>(8*i)))
	}
	return out
}

// readNumber is the number that the bytes are.
func readNumber(p []byte) uint64 {
	n := uint64(0)
	for _, x := range p {
		n = n<<8 | uint64(x)
	}
	return n
}

// span is which pieces n bytes from at on touch, at least one byte: the numbers from first on and below end.
func span(at uint64, n int) (first, end int) {
	last := at + uint64(n) - 1
	return int(at / api.BlockBytes), int(last/api.BlockBytes) + 1
}

// touched is the pieces that n bytes from at on touch, those that are not there too.
func (c *Contents) touched(ino, at uint64, n int) []piece {
	first, end := span(at, n)
	var out []piece
	for number := first; number < end; number++ {
		out = append(out, piece{ino: ino, number: number})
	}
	for _, x := range c.pieces(ino, first, end) {
		out[x.number-first] = x
	}
	if c.ended() {
		return nil
	}
	return out
}

// pieces is the pieces of a content that are there, of the numbers from first on and below end.
func (c *Contents) pieces(ino uint64, first, end int) []piece {
	return c.between(pieceKey(ino, first), pieceKey(ino, end))
}

// all is the pieces of all contents that are there.
func (c *Contents) all() []piece { return c.between([]byte{letter}, []byte{letter + 1}) }

// between is the pieces whose keys are at least from and below to, by rising keys; none, if there is an error, or one is met. A key of another length is passed over: in a tree that nobody may hand in it would stand for a piece that can not be.
func (c *Contents) between(from, to []byte) []piece {
	if c.ended() {
		return nil
	}
	var out []piece
	for _, p := range c.batch.Range(from, to, math.MaxInt) {
		if len(p.Key) != keyBytes {
			continue
		}
		ino, number := readNumber(p.Key[1:headBytes]), readNumber(p.Key[headBytes:])
		out = append(out, piece{ino: ino, number: int(number), there: true, block: int(readNumber(p.Value))})
	}
	c.meet(c.batch.Why())
	return out
}
