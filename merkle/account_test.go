package merkle_test

import (
	"encoding/binary"
	"math/big"
	"slices"
	"strings"

	"granary/api"
	"granary/dirs"
	"granary/inode"
)

// Here stands what the chapter's words say, one by one and without the package: the tests hold the package against it.

// plain is chunks by their digests.
type plain map[api.Digest]string

// get is the store's answer.
func (p plain) get(d api.Digest) (string, api.Errno) {
	c, is := p[d]
	if !is {
		return "", api.ErrNone
	}
	return c, api.OK
}

// plainPut is P17.1 and P17.2: all chunks of an object, in the order in which they are put, the head last.
func plainPut(kind byte, p string) []string {
	var out []string
	var level []api.Digest
	for at := 0; at < len(p); at += 256 {
		c := "L" + p[at:min(at+256, len(p))]
		out = append(out, c)
		level = append(level, digest(c))
	}
	for len(level) > 1 {
		var above []api.Digest
		for at := 0; at < len(level); at += 8 {
			group := level[at:min(at+8, len(level))]
			if len(group) == 1 {
				above = append(above, group[0])
				continue
			}
			c := "N"
			for _, d := range group {
				c += string(d[:])
			}
			out = append(out, c)
			above = append(above, digest(c))
		}
		level = above
	}
	root := make([]byte, 32)
	if len(level) == 1 {
		root = level[0][:]
	}
	return append(out, plainHead(kind, uint64(len(p)), string(root)))
}

// plainHead is a head's bytes.
func plainHead(kind byte, size uint64, root string) string {
	return string(kind) + string(binary.BigEndian.AppendUint64(nil, size)) + root
}

// plainNode is a node's bytes, also of too few or too many.
func plainNode(l ...api.Digest) string {
	out := "N"
	for _, d := range l {
		out += string(d[:])
	}
	return out
}

// put lays the chunks of an object, and tells the digest of its head.
func (p plain) put(kind byte, bytes string) api.Digest {
	d := api.Digest{}
	for _, c := range plainPut(kind, bytes) {
		d = p.lay(c)
	}
	return d
}

// size is P17.3's Size.
func (p plain) size(d api.Digest) (byte, uint64, api.Errno) {
	c, e := p.get(d)
	if e != api.OK {
		return 0, 0, e
	}
	if len(c) != 41 || c[0] != 'F' && c[0] != 'D' {
		return 0, 0, api.ErrObject
	}
	size := binary.BigEndian.Uint64([]byte(c[1:9]))
	if size > 1048576 || (c[9:] == zeros(32)) != (size == 0) {
		return 0, 0, api.ErrObject
	}
	return c[0], size, api.OK
}

// part is a chunk of an object as it must be: the bytes it stands for, and, if it is a node, what is under it.
type part struct {
	from, to uint64
	under    []part
}

// plainParts is the chunk that so many bytes are under, made from below.
func plainParts(size uint64) part {
	var level []part
	for at := uint64(0); at < size; at += 256 {
		level = append(level, part{at, min(at+256, size), nil})
	}
	for len(level) > 1 {
		var above []part
		for group := range slices.Chunk(level, 8) {
			if len(group) == 1 {
				above = append(above, group[0])
				continue
			}
			above = append(above, part{group[0].from, group[len(group)-1].to, group})
		}
		level = above
	}
	return level[0]
}

// read is P17.3's Read; also which chunks have a part in it.
func (p plain) read(d api.Digest, at uint64, n int) (string, []api.Digest, api.Errno) {
	if n < 0 {
		return "", nil, api.ErrArg
	}
	_, size, e := p.size(d)
	if e != api.OK {
		return "", []api.Digest{d}, e
	}
	end := new(big.Int).Add(new(big.Int).SetUint64(at), big.NewInt(int64(n)))
	to := size
	if end.Cmp(new(big.Int).SetUint64(size)) < 0 {
		to = end.Uint64()
	}
	if at >= to {
		return "", []api.Digest{d}, api.OK
	}
	r := plainRead{plain: p, from: at, to: to, has: []api.Digest{d}}
	r.part(api.Digest([]byte(p[d][9:])), plainParts(size))
	switch {
	case r.refused != api.OK:
		return "", r.has, r.refused
	case r.wrong:
		return "", r.has, api.ErrObject
	}
	return r.out.String(), r.has, api.OK
}

// plainRead is what was found out while an object is read: the bytes, the chunks that have a part in them, the store's first error, and whether a chunk is not as it must be.
type plainRead struct {
	plain    plain
	from, to uint64
	out      strings.Builder
	has      []api.Digest
	refused  api.Errno
	wrong    bool
}

func (r *plainRead) part(d api.Digest, x part) {
	if r.refused != api.OK || x.to <= r.from || x.from >= r.to {
		return
	}
	r.has = append(r.has, d)
	c, e := r.plain.get(d)
	switch {
	case e != api.OK:
		r.refused = e
	case x.under == nil && (len(c) != int(x.to-x.from)+1 || c[0] != 'L'):
		r.wrong = true
	case x.under == nil:
		r.out.WriteString(c[1+max(r.from, x.from)-x.from : 1+min(r.to, x.to)-x.from])
	case len(c) != 1+32*len(x.under) || c[0] != 'N':
		r.wrong = true
	default:
		for i, under := range x.under {
			r.part(api.Digest([]byte(c[1+32*i:33+32*i])), under)
		}
	}
}

// whole is all bytes of an object.
func (p plain) whole(d api.Digest) (string, api.Errno) {
	out, _, e := p.read(d, 0, 1<<30)
	return out, e
}

// plainInode is the bytes of an inode, also of one that can not be.
func plainInode(x api.Inode) string {
	out := binary.BigEndian.AppendUint64(nil, x.Number)
	for _, n := range []uint32{x.Generation, uint32(x.Kind), x.Mode, x.Links, x.Uid, x.Gid} {
		out = binary.BigEndian.AppendUint32(out, n)
	}
	for _, n := range []uint64{x.Size, x.Blocks, x.Atime, x.Mtime, x.Ctime, x.Root} {
		out = binary.BigEndian.AppendUint64(out, n)
	}
	out = binary.BigEndian.AppendUint32(out, uint32(len(x.Target)))
	out = append(out, x.Target...)
	for len(out)%4 != 0 {
		out = append(out, 0)
	}
	return string(out)
}

// plainItem is the bytes of an item, also of one that can not be.
func plainItem(x api.Item) string {
	out := append([]byte{byte(len(x.Name))}, x.Name...)
	out = binary.BigEndian.AppendUint64(out, x.Cookie)
	known := plainInode(x.Inode)
	out = binary.BigEndian.AppendUint16(out, uint16(len(known)))
	out = append(out, known...)
	return string(append(out, x.Object[:]...))
}

// plainItems is the bytes of items.
func plainItems(l []api.Item) string {
	var out strings.Builder
	for _, x := range l {
		out.WriteString(plainItem(x))
	}
	return out.String()
}

// plainCheck is P17.4's errors of items, each of the whole list ahead of the next one.
func plainCheck(l []api.Item) api.Errno {
	for _, x := range l {
		if e := dirs.Check(x.Name); e != api.OK {
			return e
		}
	}
	for _, x := range l {
		if e := inode.Check(x.Inode); e != api.OK {
			return e
		}
	}
	for i := range l {
		if i > 0 && l[i].Cookie <= l[i-1].Cookie {
			return api.ErrArg
		}
		if l[i].Inode.Kind == 5 && l[i].Object != none || l[i].Inode.Kind != 5 && l[i].Object == none {
			return api.ErrArg
		}
	}
	return api.OK
}

// dir is P17.4's GetDir.
func (p plain) dir(d api.Digest) ([]api.Item, api.Errno) {
	kind, _, e := p.size(d)
	if e != api.OK {
		return nil, e
	}
	if kind != 'D' {
		return nil, api.ErrObject
	}
	rest, e := p.whole(d)
	if e != api.OK {
		return nil, e
	}
	var out []api.Item
	for whole := rest; len(rest) > 0; {
		x, n := plainTake(rest)
		if n == 0 {
			return nil, api.ErrObject
		}
		out = append(out, x)
		if rest = rest[n:]; rest == "" && plainItems(out) != whole {
			return nil, api.ErrObject
		}
	}
	if plainCheck(out) != api.OK {
		return nil, api.ErrObject
	}
	return out, api.OK
}

// plainTake is the item at the front, and how many bytes it has; 0, if there is none.
func plainTake(p string) (api.Item, int) {
	name := 1 + int(p[0])
	if len(p) < name+10 {
		return api.Item{}, 0
	}
	known := name + 10 + int(binary.BigEndian.Uint16([]byte(p[name+8:])))
	if len(p) < known+32 {
		return api.Item{}, 0
	}
	x, e := inode.Get([]byte(p[name+10 : known]))
	if e != api.OK {
		return api.Item{}, 0
	}
	return api.Item{Name: p[1:name], Cookie: binary.BigEndian.Uint64([]byte(p[name:])), Inode: x, Object: api.Digest([]byte(p[known : known+32]))}, known + 32
}

// children is P17.5's Children.
func (p plain) children(d api.Digest) ([]api.Digest, api.Errno) {
	c, e := p.get(d)
	if e != api.OK {
		return nil, e
	}
	kind, size, e := p.size(d)
	switch {
	case e == api.OK:
		var out []api.Digest
		if size > 0 {
			out = append(out, api.Digest([]byte(c[9:])))
		}
		if kind == 'F' {
			return out, api.OK
		}
		l, e := p.dir(d)
		if e != api.OK {
			return nil, e
		}
		for _, x := range l {
			if x.Inode.Kind != 5 {
				out = append(out, x.Object)
			}
		}
		return out, api.OK
	case c == "":
		return nil, api.ErrObject
	case c[0] == 'N' && slices.Contains([]int{65, 97, 129, 161, 193, 225, 257}, len(c)):
		var out []api.Digest
		for at := 1; at < len(c); at += 32 {
			out = append(out, api.Digest([]byte(c[at:at+32])))
		}
		return out, api.OK
	case c[0] == 'L' && len(c) >= 2 && len(c) <= 257:
		return nil, api.OK
	}
	return nil, api.ErrObject
}

// reach is P17.5's Reach, by going down.
func (p plain) reach(d api.Digest) ([]api.Digest, api.Errno) {
	var out []api.Digest
	seen := map[api.Digest]bool{}
	var down func(d api.Digest) api.Errno
	down = func(d api.Digest) api.Errno {
		if seen[d] {
			return api.OK
		}
		seen[d] = true
		out = append(out, d)
		l, e := p.children(d)
		for _, x := range l {
			if e := down(x); e != api.OK {
				return e
			}
		}
		return e
	}
	if e := down(d); e != api.OK {
		return nil, e
	}
	return out, api.OK
}

// diff is P17.6, where no directory has a name twice.
func (p plain) diff(a, b api.Digest, ahead string) ([]api.Differ, api.Errno) {
	was, e := p.dir(a)
	if e != api.OK {
		return nil, e
	}
	is, e := p.dir(b)
	if e != api.OK {
		return nil, e
	}
	mine, theirs := map[string]api.Item{}, map[string]api.Item{}
	var all []string
	for _, x := range was {
		mine[x.Name] = x
		all = append(all, x.Name)
	}
	for _, x := range is {
		theirs[x.Name] = x
		all = append(all, x.Name)
	}
	slices.Sort(all)
	var out []api.Differ
	for _, name := range slices.Compact(all) {
		x, inA := mine[name]
		y, inB := theirs[name]
		y.Cookie = x.Cookie
		if inA && inB && x == y {
			continue
		}
		out = append(out, api.Differ{Path: ahead + name, Was: inA, Is: inB})
		if !inA || !inB || x.Object == y.Object || x.Inode.Kind != 2 || y.Inode.Kind != 2 {
			continue
		}
		below, e := p.diff(x.Object, y.Object, ahead+name+"/")
		if e != api.OK {
			return nil, e
		}
		out = append(out, below...)
	}
	return out, api.OK
}
