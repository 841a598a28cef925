package fsops

import (
	"granary/api"
	"granary/inode"
)

// The tests bring a tree into states by these that calls alone would take too long to come to.

// ForgeGeneration: that is the last generation that was given.
func (f *FS) ForgeGeneration(last uint32) error {
	return alter(f, "forge", "", func(t *tree) api.Errno {
		t.setGeneration(uint64(last))
		return api.OK
	})
}

// ForgeLinks: the inode of that number has so many links.
func (f *FS) ForgeLinks(number uint64, links uint32) error {
	return alter(f, "forge", "", func(t *tree) api.Errno {
		x, e := t.inode(number)
		x.Links = links
		t.put(x)
		return e
	})
}

// Forge puts a key of another's making into the tree.
func (f *FS) Forge(key, value []byte) error {
	return alter(f, "forge", "", func(t *tree) api.Errno {
		t.batch.Put(key, value)
		return api.OK
	})
}

// Stretches is the stretches of numbers that no inode has, rising, each as its first and its last.
func (f *FS) Stretches() [][2]uint64 {
	t := f.tree()
	var out [][2]uint64
	for n := uint64(0); ; {
		x, is := t.stretchAbove(n)
		if !is {
			return out
		}
		out = append(out, [2]uint64{x.first, x.last})
		n = x.last
	}
}

// Refusal is why an inode of that kind can't be used so.
func Refusal(kind, u int) api.Errno { return refusal(kind, use(u)) }

// Laid is how many keys an inode's bytes take.
func Laid(x api.Inode) int {
	laid, _ := inode.Put(x)
	return (len(laid) + api.MaxValue - 1) / api.MaxValue
}
