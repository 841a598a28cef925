package stripe

import (
	"bytes"
	"slices"

	"granary/api"
	"granary/sha"
)

// The most data and parity shards that a block may have.
const (
	mostData   = 4
	mostParity = 4
)

// mark is the first bytes of every shard: a sector that was never written has others.
const mark = "SHRD"

// The places in a shard's bytes; between the counts and the data are zeros, behind the data is the sum.
const (
	blockAt    = 4
	sequenceAt = 8
	indexAt    = 16
	dataAt     = 28
	sumBytes   = 4
)

// Check: P6.1.
func Check(g api.Geometry) api.Errno {
	if !counts(g.K, g.M) || g.Blocks < 1 || g.Blocks > api.MaxDevice || g.Rows <= g.Blocks || g.Rows > 2*api.MaxDevice {
		return api.ErrArg
	}
	return api.OK
}

// counts: a block may have so many data and parity shards.
func counts(k, m int) bool { return k >= 1 && k <= mostData && m >= 0 && m <= mostParity }

// ShardBytes: P6.1.
func ShardBytes(g api.Geometry) int {
	if Check(g) != api.OK {
		return 0
	}
	return dataAt + api.BlockBytes/g.K + sumBytes
}

// PutShard: P6.2.
func PutShard(s api.Shard) ([]byte, api.Errno) {
	if !isShard(&s) {
		return nil, api.ErrShard
	}
	out := make([]byte, dataAt+len(s.Data)+sumBytes)
	copy(out, mark)
	layNumber(out[blockAt:sequenceAt], uint64(s.Block))
	layNumber(out[sequenceAt:indexAt], s.Sequence)
	copy(out[indexAt:], []byte{byte(s.Index), byte(s.K), byte(s.M)})
	copy(out[dataAt:], s.Data)
	end := len(out) - sumBytes
	laySum(out[end:], sha.Crc(out[:end]))
	return out, api.OK
}

// isShard: there may be such a shard.
func isShard(s *api.Shard) bool {
	return counts(s.K, s.M) && s.Index >= 0 && s.Index < s.K+s.M &&
		s.Block >= 0 && s.Block < api.MaxDevice &&
		s.Sequence != 0 && len(s.Data) == api.BlockBytes/s.K
}

// GetShard: P6.2.
func GetShard(b []byte) (api.Shard, api.Errno) {
	if len(b) < dataAt+sumBytes {
		return api.Shard{}, api.ErrShard
	}
	s := api.Shard{
		Block:    int(number(b[blockAt:sequenceAt])),
		Sequence: number(b[sequenceAt:indexAt]),
		Index:    int(b[indexAt]),
		K:        int(b[indexAt+1]),
		M:        int(b[indexAt+2]),
		Data:     b[dataAt : len(b)-sumBytes],
	}
	// What may be wrong besides, in the mark, the zeros and the sum, shows when the shard is laid again.
	again, e := PutShard(s)
	if e != api.OK || !bytes.Equal(again, b) {
		return api.Shard{}, api.ErrShard
	}
	s.Data = slices.Clone(s.Data)
	return s, api.OK
}

// layNumber lays n over all of p, the highest byte first.
func layNumber(p []byte, n uint64) {
	for i := range p {
		p[len(p)-1-i] = byte(n >> (8 * i))
	}
}

// number is the one that layNumber laid.
func number(p []byte) uint64 {
	var n uint64
	for _, b := range p {
		n = n<<8 | uint64(b)
	}
	return n
}

// laySum lays a sum the lowest byte first: so it goes on where the bits that it sums up end, and no injury within 32 neighbouring bits gets past it, across the border neither.
func laySum(p []byte, sum uint32) {
	for i := range sumBytes {
		p[i] = byte(sum >> (8 * i))
	}
}
