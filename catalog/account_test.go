package catalog_test

import (
	"encoding/binary"
	"math/bits"
	"slices"
	"sort"
	"strings"

	"granary/api"
)

// plain is a catalogue by the chapter's words alone: how many were ever added, the tick of the last of them, and those that are there.
type plain struct {
	added uint64
	last  uint64
	there []api.Snapshot
}

// clone is one like it.
func (p *plain) clone() *plain { return &plain{p.added, p.last, slices.Clone(p.there)} }

// add: P18.3.
func (p *plain) add(tick uint64, root string, size uint64) (uint32, api.Errno) {
	if len(root) != 32 {
		return 0, api.ErrArg
	}
	if p.added != 0 && !(tick > p.last) {
		return 0, api.ErrTick
	}
	if len(p.there) == 256 || p.added+1 == 1<<32 {
		return 0, api.ErrFull
	}
	p.added++
	p.last = tick
	p.there = append(p.there, api.Snapshot{Number: uint32(p.added), Tick: tick, Root: root, Size: size})
	return uint32(p.added), api.OK
}

// drop: P18.3.
func (p *plain) drop(number uint32) api.Errno {
	for i, s := range p.there {
		if s.Number == number {
			p.there = append(slices.Clone(p.there[:i]), p.there[i+1:]...)
			return api.OK
		}
	}
	return api.ErrNone
}

// get: P18.4.
func (p *plain) get(number uint32) (api.Snapshot, bool) {
	for _, s := range p.there {
		if s.Number == number {
			return s, true
		}
	}
	return api.Snapshot{}, false
}

// byName: P18.4, from the name to the number.
func (p *plain) byName(name string) (api.Snapshot, bool) {
	digits, is := strings.CutPrefix(name, "s")
	if !is || digits == "" || len(digits) > 10 || digits[0] == '0' && digits != "0" {
		return api.Snapshot{}, false
	}
	number := uint64(0)
	for _, x := range []byte(digits) {
		if x < '0' || x > '9' {
			return api.Snapshot{}, false
		}
		number = 10*number + uint64(x-'0')
	}
	if number >= 1<<32 {
		return api.Snapshot{}, false
	}
	return p.get(uint32(number))
}

// next: P18.4.
func (p *plain) next() uint32 {
	if p.added+1 == 1<<32 {
		return 0
	}
	return uint32(p.added + 1)
}

// roots: P18.4.
func (p *plain) roots() []string {
	met := map[string]bool{}
	for _, s := range p.there {
		met[s.Root] = true
	}
	var out []string
	for r := range met {
		out = append(out, r)
	}
	sort.Strings(out)
	return out
}

// ticks is those that are there.
func (p *plain) ticks() []uint64 {
	var out []uint64
	for _, s := range p.there {
		out = append(out, s.Tick)
	}
	return out
}

// retire: P18.5.
func (p *plain) retire(y api.Policy) ([]uint32, api.Errno) {
	if refused(y) {
		return nil, api.ErrPolicy
	}
	var out []uint32
	kept := keep(y, p.ticks())
	for i, s := range slices.Clone(p.there) {
		if !kept[i] {
			out = append(out, s.Number)
			p.drop(s.Number)
		}
	}
	return out, api.OK
}

// bytes: P18.6.
func (p *plain) bytes() string {
	out := []byte("CAT1")
	out = binary.BigEndian.AppendUint32(out, p.next())
	out = binary.BigEndian.AppendUint64(out, p.last)
	out = binary.BigEndian.AppendUint32(out, uint32(len(p.there)))
	for _, s := range p.there {
		out = binary.BigEndian.AppendUint32(out, s.Number)
		out = binary.BigEndian.AppendUint64(out, s.Tick)
		out = append(out, s.Root...)
		out = binary.BigEndian.AppendUint64(out, s.Size)
	}
	return string(out)
}

// refused: P18.1.
func refused(y api.Policy) bool {
	out := y.Last < 0 || len(y.Rules) > 8
	for _, r := range y.Rules {
		out = out || r.Every == 0 || r.Count < 0
	}
	return out
}

// keep: P18.2, box by box.
func keep(y api.Policy, ticks []uint64) []bool {
	out := make([]bool, len(ticks))
	for i := range out {
		out[i] = refused(y) || len(ticks)-i <= y.Last
	}
	if refused(y) {
		return out
	}
	for _, r := range y.Rules {
		boxes := map[uint64][]int{}
		for i, x := range ticks {
			boxes[x/r.Every] = append(boxes[x/r.Every], i)
		}
		var numbers []uint64
		for n := range boxes {
			numbers = append(numbers, n)
		}
		slices.Sort(numbers)
		slices.Reverse(numbers)
		for _, n := range numbers[:min(r.Count, len(numbers))] {
			out[slices.Max(boxes[n])] = true
		}
	}
	return out
}

// skip adds n and drops each of them at once, on the lowest ticks that there are; false, if one of them is refused.
func (p *plain) skip(n uint64) bool {
	if n == 0 {
		return true
	}
	if len(p.there) == 256 || p.added+n >= 1<<32 {
		return false
	}
	more := n
	if p.added == 0 {
		more-- // the first one may have the tick 0
	}
	last, over := bits.Add64(p.last, more, 0)
	if over != 0 {
		return false
	}
	p.added, p.last = p.added+n, last
	return true
}

// led is the catalogue that has these, if acts lead there: with all that are not there on the lowest ticks that there are, since higher ones would leave less room.
func led(next uint32, last uint64, there []api.Snapshot) (*plain, bool) {
	p := &plain{}
	added := uint64(next) - 1
	if next == 0 {
		added = 1<<32 - 1
	}
	for _, s := range there {
		if uint64(s.Number) <= p.added || !p.skip(uint64(s.Number)-p.added-1) {
			return nil, false
		}
		if _, e := p.add(s.Tick, s.Root, s.Size); e != api.OK {
			return nil, false
		}
	}
	if p.added < added {
		if !p.skip(added - p.added - 1) {
			return nil, false
		}
		number, e := p.add(last, strings.Repeat("x", 32), 0)
		if e != api.OK {
			return nil, false
		}
		p.drop(number)
	}
	return p, p.added == added && p.last == last
}

// load: P18.6.
func load(b string) (*plain, bool) {
	if len(b) < 20 || b[:4] != "CAT1" {
		return nil, false
	}
	next, last, count := binary.BigEndian.Uint32([]byte(b[4:])), binary.BigEndian.Uint64([]byte(b[8:])), binary.BigEndian.Uint32([]byte(b[16:]))
	if len(b) != 20+52*int(count) {
		return nil, false
	}
	var there []api.Snapshot
	for b = b[20:]; b != ""; b = b[52:] {
		p := []byte(b[:52])
		there = append(there, api.Snapshot{Number: binary.BigEndian.Uint32(p), Tick: binary.BigEndian.Uint64(p[4:]), Root: b[12:44], Size: binary.BigEndian.Uint64(p[44:])})
	}
	return led(next, last, there)
}
