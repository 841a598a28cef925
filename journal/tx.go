package journal

import (
	"bytes"

	"granary/api"
)

// A transaction's bytes are how many puts there are, and each one's Block and Data.
const (
	countBytes = 4
	placeBytes = 4
	putBytes   = placeBytes + api.BlockBytes
)

// mostBlock is the greatest Block of a put.
const mostBlock = 1<<31 - 1

// PutTx: P8.2.
func PutTx(l []api.Put) ([]byte, api.Errno) {
	if !countable(len(l)) {
		return nil, api.ErrTx
	}
	out := lay(make([]byte, 0, txBytes(len(l))), countBytes, uint64(len(l)))
	for _, x := range l {
		if x.Block < 0 || x.Block > mostBlock || len(x.Data) != api.BlockBytes {
			return nil, api.ErrTx
		}
		out = append(lay(out, placeBytes, uint64(x.Block)), x.Data...)
	}
	return out, api.OK
}

// GetTx: P8.2.
func GetTx(p []byte) ([]api.Put, api.Errno) {
	if len(p) < countBytes {
		return nil, api.ErrTx
	}
	n := int(taken(p[:countBytes], countBytes)[0])
	if !countable(n) || len(p) != txBytes(n) {
		return nil, api.ErrTx
	}
	out := make([]api.Put, n)
	for i := range out {
		each := p[countBytes+i*putBytes:][:putBytes]
		block := taken(each[:placeBytes], placeBytes)[0]
		if block > mostBlock {
			return nil, api.ErrTx
		}
		out[i] = api.Put{Block: int(block), Data: bytes.Clone(each[placeBytes:])}
	}
	return out, api.OK
}

// Need: P8.2.
func Need(puts int) int {
	if !countable(puts) {
		return 0
	}
	return (txBytes(puts) + api.EntryBytes - 1) / api.EntryBytes
}

// countable: a transaction may have so many puts.
func countable(puts int) bool { return puts >= 1 && puts <= api.MaxPuts }

// txBytes is how many bytes a transaction of so many puts has.
func txBytes(puts int) int { return countBytes + puts*putBytes }
