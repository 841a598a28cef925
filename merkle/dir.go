package merkle

import (
	"granary/api"
	"granary/dirs"
	"granary/inode"
)

const (
	nameBytes   = 1 // of a name's length
	cookieBytes = 8
	inodeBytes  = 2 // of the length of an inode's bytes
)

// PutDir: P17.4.
func PutDir(s api.Chunks, l []api.Item) (api.Digest, api.Errno) {
	if s == nil {
		return api.Digest{}, api.ErrArg
	}
	if e := checkItems(l); e != api.OK {
		return api.Digest{}, e
	}
	var p []byte
	for _, x := range l {
		p = appendItem(p, x)
	}
	return Put(s, api.ObjectDir, p)
}

// GetDir: P17.4.
func GetDir(s api.Chunks, d api.Digest) ([]api.Item, api.Errno) {
	c, e := fetchHead(s, d)
	if e != api.OK {
		return nil, e
	}
	return c.items(s)
}

// items is those of the directory with that head.
func (c chunk) items(s api.Chunks) ([]api.Item, api.Errno) {
	if c.kind != api.ObjectDir {
		return nil, api.ErrObject
	}
	p, e := c.read(s, 0, c.size)
	if e != api.OK {
		return nil, e
	}
	out, is := cutItems(p)
	if !is || checkItems(out) != api.OK {
		return nil, api.ErrObject
	}
	return out, api.OK
}

// checkItems tells what is wrong with items: with their names ahead of their inodes, with these ahead of all else.
func checkItems(l []api.Item) api.Errno {
	for _, x := range l {
		if e := dirs.Check(x.Name); e != api.OK {
			return e
		}
	}
	for _, x := range l {
		if e := inode.Check(x.Inode); e != api.OK {
			return e
		}
	}
	for i, x := range l {
		rises := i == 0 || x.Cookie > l[i-1].Cookie
		if !rises || (x.Object == api.Digest{}) != isLink(x) {
			return api.ErrArg
		}
	}
	return api.OK
}

// isLink: it is an item that has no object.
func isLink(x api.Item) bool { return x.Inode.Kind == api.KindLink }

// appendItem lays an item that is right.
func appendItem(p []byte, x api.Item) []byte {
	known, _ := inode.Put(x.Inode)
	p = append(appendNumber(p, uint64(len(x.Name)), nameBytes), x.Name...)
	p = appendNumber(p, x.Cookie, cookieBytes)
	p = append(appendNumber(p, uint64(len(known)), inodeBytes), known...)
	return append(p, x.Object[:]...)
}

// cutItems is the items that the bytes are laid from, and whether they are just such.
func cutItems(p []byte) ([]api.Item, bool) {
	var out []api.Item
	for c := (cutter{left: p}); len(c.left) > 0; {
		x, is := c.item()
		if !is {
			return nil, false
		}
		out = append(out, x)
	}
	return out, true
}

// cutter cuts bytes off at the front, and knows whether there were too few.
type cutter struct {
	left  []byte
	short bool
}

// cut is the next n bytes; none, if there are fewer.
func (c *cutter) cut(n int) []byte {
	if c.short = c.short || n > len(c.left); c.short {
		return nil
	}
	out := c.left[:n]
	c.left = c.left[n:]
	return out
}

// counted is bytes that stand behind their length.
func (c *cutter) counted(width int) []byte { return c.cut(int(number(c.cut(width)))) }

// item is the next one, and whether there is one, with an inode.
func (c *cutter) item() (api.Item, bool) {
	x := api.Item{Name: string(c.counted(nameBytes)), Cookie: number(c.cut(cookieBytes))}
	known, e := inode.Get(c.counted(inodeBytes))
	x.Inode = known
	copy(x.Object[:], c.cut(digestBytes))
	return x, e == api.OK && !c.short
}
