package journal

import (
	"bytes"

	"granary/api"
)

// How the blocks of a journal are laid: a mark, numbers, and in an entry what it holds; all else is zeros.
const (
	entryMark = "JLOG"
	superMark = "JSUP"
	markBytes = 4
	longBytes = 8
	longs     = 4 // of an entry
	fields    = 6 // of a superblock
	entryHead = api.BlockBytes - api.EntryBytes
)

// mostNumber is the greatest number of a journal.
const mostNumber = 1 << 62

// mostParts is how many entries a transaction may have.
const mostParts = 100

// within: none of the numbers is above the greatest one.
func within(numbers ...uint64) bool {
	for _, n := range numbers {
		if n > mostNumber {
			return false
		}
	}
	return true
}

// PutEntry: P8.1.
func PutEntry(x api.LogEntry) ([]byte, api.Errno) {
	if !canBeEntry(x) {
		return nil, api.ErrEntry
	}
	head := lay([]byte(entryMark), longBytes, x.Boot, x.Serial, x.Position, x.Lsn)
	head = lay(head, 2, uint64(x.Part), uint64(x.Parts), uint64(len(x.Bytes)))
	out := make([]byte, api.BlockBytes)
	copy(out, head)
	copy(out[entryHead:], x.Bytes)
	return out, api.OK
}

// canBeEntry: its fields are within their bounds.
func canBeEntry(x api.LogEntry) bool {
	return x.Boot > 0 && x.Serial > 0 && x.Lsn > 0 && within(x.Boot, x.Serial, x.Position, x.Lsn) &&
		x.Parts >= 1 && x.Parts <= mostParts && x.Part >= 0 && x.Part < x.Parts &&
		len(x.Bytes) >= 1 && len(x.Bytes) <= api.EntryBytes
}

// GetEntry: P8.1. What is read is laid again: so it is taken just where nothing else stands there.
func GetEntry(b []byte) (api.LogEntry, api.Errno) {
	if len(b) != api.BlockBytes {
		return api.LogEntry{}, api.ErrEntry
	}
	shorts := markBytes + longs*longBytes
	n := taken(b[markBytes:shorts], longBytes)
	s := taken(b[shorts:entryHead], 2)
	end := entryHead + min(int(s[2]), api.EntryBytes)
	x := api.LogEntry{
		Boot: n[0], Serial: n[1], Position: n[2], Lsn: n[3],
		Part: int(s[0]), Parts: int(s[1]), Bytes: bytes.Clone(b[entryHead:end]),
	}
	if again, e := PutEntry(x); e != api.OK || !bytes.Equal(again, b) {
		return api.LogEntry{}, api.ErrEntry
	}
	return x, api.OK
}

// PutSuper: P8.1.
func PutSuper(x api.LogSuper) ([]byte, api.Errno) {
	numbers := [fields]uint64{x.Generation, x.Boot, x.Position, x.Lsn, x.AfterBoot, x.AfterSerial}
	if x.Generation == 0 || x.Boot == 0 || !within(numbers[:]...) {
		return nil, api.ErrEntry
	}
	out := make([]byte, api.BlockBytes)
	copy(out, lay([]byte(superMark), longBytes, numbers[:]...))
	return out, api.OK
}

// GetSuper: P8.1.
func GetSuper(b []byte) (api.LogSuper, api.Errno) {
	if len(b) != api.BlockBytes {
		return api.LogSuper{}, api.ErrEntry
	}
	n := taken(b[markBytes:markBytes+fields*longBytes], longBytes)
	x := api.LogSuper{Generation: n[0], Boot: n[1], Position: n[2], Lsn: n[3], AfterBoot: n[4], AfterSerial: n[5]}
	if again, e := PutSuper(x); e != api.OK || !bytes.Equal(again, b) {
		return api.LogSuper{}, api.ErrEntry
	}
	return x, api.OK
}

// lay is out with the numbers behind, so many bytes each, the highest first.
func lay(out []byte, size int, numbers ...uint64) []byte {
	for _, n := range numbers {
		for i := size - 1; i >= 0; i-- {
			out = append(out, byte(n>>(8*i)))
		}
	}
	return out
}

// taken is the numbers that the bytes are, so many bytes each.
func taken(p []byte, size int) []uint64 {
	out := make([]uint64, len(p)/size)
	for i, b := range p {
		out[i/size] = out[i/size]<<8 | uint64(b)
	}
	return out
}
