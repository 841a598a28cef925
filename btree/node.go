package btree

import (
	"bytes"
	"slices"

	"granary/api"
)

// How a node lies in its block: a mark, its level, how many entries it has, and the entries; all else is zeros. An entry of a leaf is the lengths of its key and its value, and these; one of another node is the length of its key, the number of its block, and the key.
const (
	nodeMark    = 'N'
	headBytes   = 3
	leafBytes   = 2 // of an entry of a leaf, beside key and value
	numberBytes = 8
	childBytes  = 1 + numberBytes // of an entry of another node, beside its key
	roomBytes   = api.BlockBytes - headBytes
)

// leastBytes is how many bytes of entries a node has at least that is no root. Both halves of one that has more than roomBytes have as many, however long its entries are. Three children take less: so each node but the root and the leaves has four, and no tree of a million keys is more than 11 nodes deep.
const leastBytes = 120

// entry is a pair of a leaf, or a child of another node: then its keys are at least key.
type entry struct {
	key   []byte
	value []byte
	child int
}

// pair is the entry of a leaf in new memory.
func (x entry) pair() api.Pair {
	return api.Pair{Key: bytes.Clone(x.key), Value: bytes.Clone(x.value)}
}

// node is entries by rising keys. The first entry of a node that is no leaf has the key from which on the node itself has keys; it is not laid, since the node's place tells it.
type node struct {
	level   int // 0 of a leaf
	entries []entry
}

// entryBytes is how many bytes the entry i takes.
func (n node) entryBytes(i int) int {
	x := n.entries[i]
	switch {
	case n.level == 0:
		return leafBytes + len(x.key) + len(x.value)
	case i == 0:
		return childBytes
	}
	return childBytes + len(x.key)
}

// size is how many bytes all entries take.
func (n node) size() int {
	sum := 0
	for i := range n.entries {
		sum += n.entryBytes(i)
	}
	return sum
}

// laid is the block of the node, which must have room in it.
func (n node) laid() []byte {
	out := make([]byte, 0, api.BlockBytes)
	out = append(out, nodeMark, byte(n.level), byte(len(n.entries)))
	for i, x := range n.entries {
		switch {
		case n.level == 0:
			out = append(out, byte(len(x.key)), byte(len(x.value)))
			out = append(out, x.key...)
			out = append(out, x.value...)
		case i == 0:
			out = layNumber(append(out, 0), x.child)
		default:
			out = layNumber(append(out, byte(len(x.key))), x.child)
			out = append(out, x.key...)
		}
	}
	return out[:api.BlockBytes]
}

// layNumber is out with the number of a block behind it: a space may count by any ints.
func layNumber(out []byte, block int) []byte {
	for shift := 8 * (numberBytes - 1); shift >= 0; shift -= 8 {
		out = append(out, byte(uint64(block)>>shift))
	}
	return out
}

// number is the number of a block that the bytes are.
func number(p []byte) int {
	n := uint64(0)
	for _, x := range p {
		n = n<<8 | uint64(x)
	}
	return int(n)
}

// read is the node that lies in a block, and whether one does. What is read is laid again: so nothing is taken but what laid has made. The node shares the block's memory.
func read(p []byte) (node, bool) {
	if len(p) != api.BlockBytes {
		return node{}, false
	}
	n := node{level: int(p[1])}
	rest := p[headBytes:]
	for range p[2] {
		x, size := readEntry(rest, n.level == 0)
		if size == 0 {
			return node{}, false
		}
		n.entries = append(n.entries, x)
		rest = rest[size:]
	}
	return n, bytes.Equal(n.laid(), p)
}

// readEntry is the entry with which the bytes begin, and how many it takes: none, if there is no such entry.
func readEntry(p []byte, leaf bool) (entry, int) {
	head := childBytes
	if leaf {
		head = leafBytes
	}
	if len(p) < head {
		return entry{}, 0
	}
	key, value := int(p[0]), 0
	if leaf {
		value = int(p[1])
	}
	size := head + key + value
	if key > api.MaxKey || value > api.MaxValue || leaf && key == 0 || len(p) < size {
		return entry{}, 0
	}
	x := entry{key: p[head : head+key], value: p[head+key : size]}
	if !leaf {
		x.child = number(p[1:head])
	}
	return x, size
}

// find is the first entry whose key is at least key, and whether it has just that.
func (n node) find(key []byte) (int, bool) {
	return slices.BinarySearchFunc(n.entries, key, func(x entry, key []byte) int { return bytes.Compare(x.key, key) })
}

// toward is the entry whose child has the key, if the tree has it.
func (n node) toward(key []byte) int {
	i, is := n.find(key)
	if is || i == 0 {
		return i
	}
	return i - 1
}

// put: the leaf has the pair; whether that is news.
func (n *node) put(key, value []byte) bool {
	i, is := n.find(key)
	if is && bytes.Equal(n.entries[i].value, value) {
		return false
	}
	if !is {
		n.entries = slices.Insert(n.entries, i, entry{})
	}
	n.entries[i] = entry{key: key, value: value}
	return true
}

// drop: the leaf has the key no more; whether it had.
func (n *node) drop(key []byte) bool {
	i, is := n.find(key)
	if is {
		n.entries = slices.Delete(n.entries, i, i+1)
	}
	return is
}

// parts is the node, cut in two if it has more than there is room for in a block.
func (n node) parts() []node {
	if n.size() <= roomBytes {
		return []node{n}
	}
	at := n.middle()
	right := make([]entry, len(n.entries)-at)
	copy(right, n.entries[at:])
	return []node{{n.level, n.entries[:at:at]}, {n.level, right}}
}

// middle is how many entries belong to the first half of the node's bytes: those whose own middle lies in it. So the halves are unlike by no more than one entry. A node that is too large has several, so that the last one is not among these.
func (n node) middle() int {
	whole, half, i := n.size(), 0, 0
	for 2*half+n.entryBytes(i) <= whole {
		half += n.entryBytes(i)
		i++
	}
	return i
}

// border is a key above all of the left node's, and not above any of the right one's. Between leaves it is as short as can be, so that the nodes above have many children.
func border(left, right node) []byte {
	key := right.entries[0].key
	if right.level > 0 {
		return key
	}
	last := left.entries[len(left.entries)-1].key
	same := 0
	for same < len(last) && last[same] == key[same] {
		same++
	}
	return key[:same+1]
}
