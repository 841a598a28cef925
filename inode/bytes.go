package inode

import "granary/api"

// How inodes and handles are laid: numbers of four and of eight bytes, the highest first, and a target in units of four.
const (
	wordBytes = 4
	longBytes = 8
	headBytes = 7*longBytes + 7*wordBytes // all that stands ahead of the target, its length too
)

// Put: P12.2.
func Put(x api.Inode) ([]byte, api.Errno) {
	if e := Check(x); e != api.OK {
		return nil, e
	}
	out := lay(nil, longBytes, x.Number)
	out = lay(out, wordBytes, uint64(x.Generation), uint64(x.Kind), uint64(x.Mode), uint64(x.Links), uint64(x.Uid), uint64(x.Gid))
	out = lay(out, longBytes, x.Size, x.Blocks, x.Atime, x.Mtime, x.Ctime, x.Root)
	out = lay(out, wordBytes, uint64(len(x.Target)))
	out = append(out, x.Target...)
	return append(out, make([]byte, zerosBehind(len(x.Target)))...), api.OK
}

// Get: P12.2. The length of the target is held against its bound ahead of all that hangs on it.
func Get(b []byte) (api.Inode, api.Errno) {
	if len(b) < headBytes {
		return api.Inode{}, api.ErrShort
	}
	x, length := takeHead(b)
	if length > api.MaxTarget {
		return api.Inode{}, api.ErrLong
	}
	n, rest := int(length), b[headBytes:]
	if e := checkRest(rest, n); e != api.OK {
		return api.Inode{}, e
	}
	x.Target = string(rest[:n])
	if e := Check(x); e != api.OK {
		return api.Inode{}, e
	}
	return x, api.OK
}

// takeHead is the inode without its target, and how long that is.
func takeHead(b []byte) (api.Inode, uint32) {
	s := source{b}
	x := api.Inode{
		Number: s.long(), Generation: s.word(), Kind: int(s.word()), Mode: s.word(),
		Links: s.word(), Uid: s.word(), Gid: s.word(), Size: s.long(), Blocks: s.long(),
		Atime: s.long(), Mtime: s.long(), Ctime: s.long(), Root: s.long(),
	}
	return x, s.word()
}

// checkRest: the bytes are a target of that length and its zeros, no fewer and no more.
func checkRest(rest []byte, length int) api.Errno {
	room := length + zerosBehind(length)
	switch {
	case len(rest) < room:
		return api.ErrShort
	case len(rest) > room:
		return api.ErrTail
	}
	for _, c := range rest[length:] {
		if c != 0 {
			return api.ErrInode
		}
	}
	return api.OK
}

// zerosBehind is how many zeros make the length one of whole words.
func zerosBehind(length int) int { return (wordBytes - length%wordBytes) % wordBytes }

// lay is out with the numbers behind, so many bytes each.
func lay(out []byte, size int, numbers ...uint64) []byte {
	for _, n := range numbers {
		for i := size - 1; i >= 0; i-- {
			out = append(out, byte(n>>(8*i)))
		}
	}
	return out
}

// source is bytes from whose front numbers are taken; whoever takes has seen that there are enough.
type source struct{ rest []byte }

// take is the number that the next bytes are.
func (s *source) take(size int) uint64 {
	n := uint64(0)
	for _, c := range s.rest[:size] {
		n = n<<8 | uint64(c)
	}
	s.rest = s.rest[size:]
	return n
}

func (s *source) word() uint32 { return uint32(s.take(wordBytes)) }

func (s *source) long() uint64 { return s.take(longBytes) }
