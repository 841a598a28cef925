package catalog

import "granary/api"

const (
	mark          = "CAT1"
	numberBytes   = 4
	tickBytes     = 8
	countBytes    = 4
	sizeBytes     = 8
	headBytes     = len(mark) + numberBytes + tickBytes + countBytes
	snapshotBytes = numberBytes + tickBytes + api.RootBytes + sizeBytes
)

// Bytes: P18.6.
func (c *Catalog) Bytes() []byte {
	if c == nil {
		return nil
	}
	p := appendNumber([]byte(mark), uint64(c.Next()), numberBytes)
	p = appendNumber(p, c.last, tickBytes)
	p = appendNumber(p, uint64(len(c.list)), countBytes)
	for _, s := range c.list {
		p = appendNumber(p, uint64(s.Number), numberBytes)
		p = append(appendNumber(p, s.Tick, tickBytes), s.Root...)
		p = appendNumber(p, s.Size, sizeBytes)
	}
	return p
}

// Load: P18.6.
func Load(b []byte) (*Catalog, api.Errno) {
	if len(b) < headBytes || string(b[:len(mark)]) != mark {
		return nil, api.ErrCatalog
	}
	next, b := cut(b[len(mark):], numberBytes)
	last, b := cut(b, tickBytes)
	count, b := cut(b, countBytes)
	if count > api.MaxSnapshots || uint64(len(b)) != count*snapshotBytes {
		return nil, api.ErrCatalog
	}
	c := &Catalog{given: uint32(next) - 1, last: last} // next 0 is behind the greatest number
	for len(b) > 0 {
		var s api.Snapshot
		s, b = cutSnapshot(b)
		c.list = append(c.list, s)
	}
	if !c.comesAbout() {
		return nil, api.ErrCatalog
	}
	return c, api.OK
}

// comesAbout: some calls of New, Add and Drop lead to such a catalogue.
func (c *Catalog) comesAbout() bool {
	if c.given == 0 {
		return c.last == 0 && len(c.list) == 0
	}
	below := api.Snapshot{Number: 1} // the least that the first one can have
	for i, s := range c.list {
		if i > 0 && s.Number == below.Number || !hasRoom(below, s) {
			return false
		}
		below = s
	}
	if len(c.list) > 0 && below.Number == c.given {
		return below.Tick == c.last
	}
	// Where the list is full the last one could not have been added behind it.
	return len(c.list) < api.MaxSnapshots && hasRoom(below, api.Snapshot{Number: c.given, Tick: c.last})
}

// hasRoom: s can stand behind below, and each number in between has had a tick of its own.
func hasRoom(below, s api.Snapshot) bool {
	return s.Number >= below.Number && s.Tick >= below.Tick && s.Tick-below.Tick >= uint64(s.Number-below.Number)
}

// cutSnapshot is the one at the front, and what is behind it.
func cutSnapshot(b []byte) (api.Snapshot, []byte) {
	number, b := cut(b, numberBytes)
	tick, b := cut(b, tickBytes)
	root, b := string(b[:api.RootBytes]), b[api.RootBytes:]
	size, b := cut(b, sizeBytes)
	return api.Snapshot{Number: uint32(number), Tick: tick, Root: root, Size: size}, b
}

// cut is the number of so many bytes at the front, and what is behind it.
func cut(b []byte, width int) (uint64, []byte) {
	var n uint64
	for _, x := range b[:width] {
		n = n<<8 | uint64(x)
	}
	return n, b[width:]
}

// appendNumber lays a number of so many bytes, the highest first.
func appendNumber(p []byte, n uint64, width int) []byte {
	for i := width - 1; i >= 0; i-- {
		p = append(p, byte(n>>(8*i)))
	}
	return p
}
