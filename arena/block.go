package arena

import (
	"bytes"

	"granary/api"
)

// How a block is laid: a mark, a stamp, and of each chunk its length and its bytes; all else is zeros.
const (
	mark        = "AREN"
	headBytes   = api.BlockBytes - api.ArenaBytes
	lengthBytes = 2
)

// mostStamp is the greatest stamp that a block may have.
const mostStamp = 1 << 62

// PutBlock: P16.1.
func PutBlock(x api.Arena) ([]byte, api.Errno) {
	if x.Stamp == 0 || x.Stamp > mostStamp || !haveRoom(x.Chunks) {
		return nil, api.ErrArena
	}
	out := append(make([]byte, 0, api.BlockBytes), mark...)
	for i := 7; i >= 0; i-- {
		out = append(out, byte(x.Stamp>>(8*i)))
	}
	for _, c := range x.Chunks {
		out = append(out, byte(len(c)>>8), byte(len(c)))
		out = append(out, c...)
	}
	return out[:api.BlockBytes], api.OK
}

// haveRoom: these can be the chunks of a block.
func haveRoom(chunks [][]byte) bool {
	used := 0
	for _, c := range chunks {
		if len(c) == 0 || len(c) > api.MaxChunk || used > api.ArenaBytes {
			return false
		}
		used += lengthBytes + len(c)
	}
	return used > 0 && used <= api.ArenaBytes
}

// GetBlock: P16.1. What is read is laid again: so it is taken just where nothing else stands there.
func GetBlock(b []byte) (api.Arena, api.Errno) {
	if len(b) != api.BlockBytes {
		return api.Arena{}, api.ErrArena
	}
	x := api.Arena{Chunks: cut(b[headBytes:])}
	for _, each := range b[len(mark):headBytes] {
		x.Stamp = x.Stamp<<8 | uint64(each)
	}
	if again, e := PutBlock(x); e != api.OK || !bytes.Equal(again, b) {
		return api.Arena{}, api.ErrArena
	}
	return x, api.OK
}

// cut is the chunks that the bytes begin with, up to a length that is 0, or passes the end.
func cut(p []byte) [][]byte {
	var out [][]byte
	for len(p) > lengthBytes {
		n := int(p[0])<<8 | int(p[1])
		p = p[lengthBytes:]
		if n == 0 || n > len(p) {
			break
		}
		out = append(out, bytes.Clone(p[:n]))
		p = p[n:]
	}
	return out
}

// empty: it is a block of zeros.
func empty(b []byte) bool { return bytes.Equal(b, zeros()) }

// zeros is a block of zeros, a new one each time, since a device may keep what it is handed.
func zeros() []byte { return make([]byte, api.BlockBytes) }
