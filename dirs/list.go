package dirs

import (
	"iter"
	"slices"

	"granary/api"
	"granary/btree"
)

// pageKeys is how many entries are read at once: enough that the way down the tree counts little, few enough that a short list reads little.
const pageKeys = 16

// List: P13.6.
func List(b *btree.Batch, dir, after uint64, most int) ([]api.Entry, bool, api.Errno) {
	if _, e := nextCookie(b, dir); e != api.OK {
		return nil, false, e
	}
	var out []api.Entry
	end := true
	for x := range entries(b, dir, after) {
		if len(out) >= most {
			end = false
			break
		}
		out = append(out, x)
	}
	if e := b.Why(); e != api.OK {
		return nil, false, e
	}
	return out, end, api.OK
}

// Each: P13.6. All is read at once: a batch writes over its own blocks, so that later there would be no more to read of what is now.
func Each(b *btree.Batch, dir uint64) iter.Seq[api.Entry] {
	l := slices.Collect(entries(b, dir, 0))
	if b.Why() != api.OK {
		l = nil
	}
	return slices.Values(l)
}

// Count: P13.7.
func Count(b *btree.Batch, dir uint64) (int, api.Errno) {
	if _, e := nextCookie(b, dir); e != api.OK {
		return 0, e
	}
	many := 0
	for range entries(b, dir, 0) {
		many++
	}
	if e := b.Why(); e != api.OK {
		return 0, e
	}
	return many, api.OK
}

// entries goes over the entries of a directory whose cookies are above after, by rising cookies, page by page; where the batch has an error, or comes to one, it ends. While one goes on, the batch is not to be changed.
func entries(b *btree.Batch, dir, after uint64) iter.Seq[api.Entry] {
	return func(yield func(api.Entry) bool) {
		from, to := behind(cookieKey(dir, after)), behind(cookieKey(dir, lastCookie))
		for {
			page := b.Range(from, to, pageKeys)
			for _, p := range page {
				if !yield(readEntry(cookieOf(p.Key), p.Value)) {
					return
				}
			}
			if len(page) < pageKeys {
				return
			}
			from = behind(page[len(page)-1].Key)
		}
	}
}
