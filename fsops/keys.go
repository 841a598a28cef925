package fsops

import (
	"math"

	"granary/api"
)

// Each key begins with a letter that is none of package dirs' (n, c and d) or package extents' (x).
const (
	inodeLetter      = 'i' // and an inode's number, and a part's: has that part of the inode's bytes
	parentLetter     = 'p' // and a directory's number: has the number of the directory it is in
	freeLetter       = 'f' // and the last of a stretch of numbers that no inode has: has the first
	generationLetter = 'g' // and nothing else: has the last generation that was given
)

const (
	numberBytes = 8
	keyBytes    = 1 + numberBytes // of a letter and a number
	headBytes   = 84              // of an inode without a target
	parts       = (headBytes + api.MaxTarget + 1 + api.MaxValue - 1) / api.MaxValue
)

func partKey(number uint64, part int) []byte {
	return append(layNumber([]byte{inodeLetter}, number), byte(part))
}

func parentKey(dir uint64) []byte { return layNumber([]byte{parentLetter}, dir) }

func freeKey(last uint64) []byte { return layNumber([]byte{freeLetter}, last) }

// layNumber is out with the number behind it, the highest byte first: so keys are in the order of their numbers.
func layNumber(out []byte, n uint64) []byte {
	for shift := 8 * (numberBytes - 1); shift >= 0; shift -= 8 {
		out = append(out, byte(n>>shift))
	}
	return out
}

// readNumber is the number that the bytes are.
func readNumber(p []byte) uint64 {
	n := uint64(0)
	for _, c := range p {
		n = n<<8 | uint64(c)
	}
	return n
}

// stretch is the numbers from first to last, which no inode has. The tree keeps the longest ones: they are no more than there are inodes, and the last of them has no end that is ever come to.
type stretch struct{ first, last uint64 }

// layStretch: the tree has the stretch, in the place of another one with that end.
func (t *tree) layStretch(x stretch) { t.batch.Put(freeKey(x.last), layNumber(nil, x.first)) }

// stretchAbove is the first stretch that ends above n, and whether there is one.
func (t *tree) stretchAbove(n uint64) (stretch, bool) {
	p, is := t.batch.Next(freeKey(n))
	if !is || len(p.Key) != keyBytes || p.Key[0] != freeLetter {
		return stretch{}, false
	}
	return stretch{first: readNumber(p.Value), last: readNumber(p.Key[1:])}, true
}

// takeNumber is the least number that no inode has; from now on one has it.
func (t *tree) takeNumber() uint64 {
	x, _ := t.stretchAbove(0)
	n := x.first
	if n == x.last {
		t.batch.Drop(freeKey(n))
	} else {
		t.layStretch(stretch{n + 1, x.last})
	}
	return n
}

// freeNumber: no inode has the number any more. Stretches that it lies between are one with it.
func (t *tree) freeNumber(n uint64) {
	whole := stretch{n, n}
	if first, is := t.batch.Get(freeKey(n - 1)); is {
		whole.first = readNumber(first)
		t.batch.Drop(freeKey(n - 1))
	}
	if above, is := t.stretchAbove(n); is && above.first == n+1 {
		whole.last = above.last
	}
	t.layStretch(whole)
}

// takeGeneration is the next generation, which nobody is given again; ErrFull, if none is left.
func (t *tree) takeGeneration() (uint32, api.Errno) {
	p, _ := t.batch.Get([]byte{generationLetter})
	last := readNumber(p)
	if last >= math.MaxUint32 {
		return 0, api.ErrFull
	}
	t.setGeneration(last + 1)
	return uint32(last + 1), api.OK
}

// setGeneration: that is the last generation that was given.
func (t *tree) setGeneration(last uint64) {
	t.batch.Put([]byte{generationLetter}, layNumber(nil, last))
}
