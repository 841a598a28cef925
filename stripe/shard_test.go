package stripe_test

import (
	"bytes"
	"math"
	"testing"

	"granary/api"
	"granary/stripe"
)

// TestCheck: geometries at both sides of every bound, one bound at a time (P6.1).
func TestCheck(t *testing.T) {
	const most = 4096
	right := []api.Geometry{
		{K: 1, M: 0, Blocks: 1, Rows: 2},
		{K: 4, M: 0, Blocks: 1, Rows: 2},
		{K: 1, M: 4, Blocks: 1, Rows: 2},
		{K: 4, M: 4, Blocks: 7, Rows: 8},
		{K: 2, M: 1, Blocks: most, Rows: most + 1},
		{K: 2, M: 1, Blocks: most, Rows: 2 * most},
		{K: 2, M: 1, Blocks: 1, Rows: 2 * most},
	}
	wrong := []api.Geometry{
		{},
		{K: 0, M: 1, Blocks: 1, Rows: 2},
		{K: 5, M: 1, Blocks: 1, Rows: 2},
		{K: -1, M: 1, Blocks: 1, Rows: 2},
		{K: 1, M: -1, Blocks: 1, Rows: 2},
		{K: 1, M: 5, Blocks: 1, Rows: 2},
		{K: 1, M: 1, Blocks: 0, Rows: 2},
		{K: 1, M: 1, Blocks: -1, Rows: 2},
		{K: 1, M: 1, Blocks: most + 1, Rows: 2 * most},
		{K: 1, M: 1, Blocks: 1, Rows: 1},
		{K: 1, M: 1, Blocks: 7, Rows: 7},
		{K: 1, M: 1, Blocks: 7, Rows: 6},
		{K: 1, M: 1, Blocks: 1, Rows: -1},
		{K: 1, M: 1, Blocks: most, Rows: most},
		{K: 1, M: 1, Blocks: most, Rows: 2*most + 1},
		{K: 1, M: 1, Blocks: 1, Rows: 2*most + 1},
		{K: math.MaxInt, M: math.MaxInt, Blocks: math.MaxInt, Rows: math.MaxInt},
		{K: math.MinInt, M: math.MinInt, Blocks: math.MinInt, Rows: math.MinInt},
		{K: 1, M: math.MaxInt, Blocks: 1, Rows: 2},
		{K: 1, M: 1, Blocks: 1, Rows: math.MaxInt},
		{K: 1, M: 1, Blocks: math.MinInt, Rows: 2},
	}
	for _, g := range right {
		want(t, "Check", stripe.Check(g), api.OK)
		if n := stripe.ShardBytes(g); n != 32+384/g.K {
			t.Errorf("ShardBytes(%+v): %d", g, n)
		}
	}
	for _, g := range wrong {
		if e, n := stripe.Check(g), stripe.ShardBytes(g); e != api.ErrArg || n != 0 {
			t.Errorf("%+v: Check %d, ShardBytes %d", g, e, n)
		}
	}
}

// TestShardBytes: the lengths of the four (P6.1).
func TestShardBytes(t *testing.T) {
	for k, n := range []int{0, 416, 224, 160, 128, 0} {
		if got := stripe.ShardBytes(api.Geometry{K: k, M: 1, Blocks: 3, Rows: 5}); got != n {
			t.Errorf("ShardBytes of %d: %d, want %d", k, got, n)
		}
	}
}

// same: the shards are alike in all fields.
func same(a, b api.Shard) bool {
	return a.Block == b.Block && a.Sequence == b.Sequence && a.Index == b.Index && a.K == b.K && a.M == b.M && bytes.Equal(a.Data, b.Data)
}

// noShard: GetShard answers the zero Shard and ErrShard.
func noShard(t *testing.T, name string, p []byte) {
	t.Helper()
	if s, e := stripe.GetShard(p); e != api.ErrShard || !same(s, api.Shard{}) {
		t.Errorf("%s: GetShard: %+v, error %d", name, s, e)
	}
}

// noBytes: PutShard answers none and ErrShard.
func noBytes(t *testing.T, name string, s api.Shard) {
	t.Helper()
	if p, e := stripe.PutShard(s); e != api.ErrShard || len(p) != 0 {
		t.Errorf("%s: PutShard: %x, error %d", name, p, e)
	}
}

// everyShard calls do with a shard of each K, M and Index, of the least and the greatest Block and Sequence and of some between.
func everyShard(do func(s api.Shard)) {
	dice := dice(62)
	for k := 1; k <= 4; k++ {
		for m := range 5 {
			for i := range k + m {
				for _, b := range []int{0, 1, 255, 256, 0x0a0b, 4095} {
					for _, n := range []uint64{1, 255, 256, 0x0102030405060708, 1<<64 - 1} {
						do(api.Shard{Block: b, Sequence: n, Index: i, K: k, M: m, Data: dice.bytes(384 / k)})
					}
				}
			}
		}
	}
}

// TestThereAndBack: each shard has the bytes that the chapter says, and they tell it again (P6.2).
func TestThereAndBack(t *testing.T) {
	everyShard(func(s api.Shard) {
		p, e := stripe.PutShard(s)
		if e != api.OK || !bytes.Equal(p, schoolPut(s)) {
			t.Fatalf("PutShard(%+v): %x, error %d", s, p, e)
		}
		if back, e := stripe.GetShard(p); e != api.OK || !same(back, s) {
			t.Fatalf("GetShard: %+v, error %d, want %+v", back, e, s)
		}
	})
}

// TestLaidOut: one shard, byte by byte (P6.2).
func TestLaidOut(t *testing.T) {
	p, e := stripe.PutShard(api.Shard{Block: 0x0abc, Sequence: 0x1122334455667788, Index: 5, K: 4, M: 3, Data: full('d')[:96]})
	want(t, "PutShard", e, api.OK)
	head := "SHRD\x00\x00\x0a\xbc\x11\x22\x33\x44\x55\x66\x77\x88\x05\x04\x03\x00\x00\x00\x00\x00\x00\x00\x00\x00"
	crc := schoolCrc([]byte(head + string(full('d')[:96])))
	if len(p) != 128 || string(p[:28]) != head || !bytes.Equal(p[28:124], full('d')[:96]) {
		t.Fatalf("%x", p)
	}
	for i, b := range p[124:] {
		if b != byte(crc>>(8*i)) {
			t.Errorf("the sum is %x of %x", p[124:], crc)
		}
	}
}

// wrongs is shards with one thing wrong each; all of them can be laid by schoolPut so that the sum fits.
func wrongs() map[string]api.Shard {
	out := map[string]api.Shard{}
	add := func(name string, change func(s *api.Shard)) {
		s := api.Shard{Block: 2, Sequence: 9, Index: 1, K: 2, M: 1, Data: full('x')[:192]}
		change(&s)
		out[name] = s
	}
	add("K 0", func(s *api.Shard) { s.K = 0 })
	add("K 0 with no data", func(s *api.Shard) { s.K, s.Data = 0, nil })
	add("K 5", func(s *api.Shard) { s.K, s.Data = 5, s.Data[:384/5] })
	add("K 6", func(s *api.Shard) { s.K, s.Data = 6, s.Data[:64] })
	add("M 5", func(s *api.Shard) { s.M = 5 })
	add("M 255", func(s *api.Shard) { s.M = 255 })
	add("Index 3", func(s *api.Shard) { s.Index = 3 })
	add("Index 255", func(s *api.Shard) { s.Index = 255 })
	add("Index 1 of 1", func(s *api.Shard) { s.K, s.M, s.Data = 1, 0, full('x') })
	add("Block 4096", func(s *api.Shard) { s.Block = 4096 })
	add("Block 2^31", func(s *api.Shard) { s.Block = 1 << 31 })
	add("Block 2^32 - 1", func(s *api.Shard) { s.Block = 1<<32 - 1 })
	add("Sequence 0", func(s *api.Shard) { s.Sequence = 0 })
	add("no data", func(s *api.Shard) { s.Data = nil })
	add("a byte less", func(s *api.Shard) { s.Data = s.Data[:191] })
	add("a byte more", func(s *api.Shard) { s.Data = full('x')[:193] })
	add("the data of K 1", func(s *api.Shard) { s.Data = full('x') })
	add("the data of K 3", func(s *api.Shard) { s.Data = s.Data[:128] })
	return out
}

// TestPutShardRefuses: each refusal alone (P6.2).
func TestPutShardRefuses(t *testing.T) {
	for name, s := range wrongs() {
		noBytes(t, name, s)
	}
	good := api.Shard{Block: 2, Sequence: 9, Index: 1, K: 2, M: 1, Data: full('x')[:192]}
	for _, n := range []int{-1, -256, math.MinInt, math.MaxInt, 1 << 32, 1<<32 + 1, 257} {
		s := good
		s.K = n
		noBytes(t, "another K", s)
		s = good
		s.M = n
		noBytes(t, "another M", s)
		s = good
		s.Index = n
		noBytes(t, "another Index", s)
		if n != 257 {
			s = good
			s.Block = n
			noBytes(t, "another Block", s)
		}
	}
	noBytes(t, "the zero Shard", api.Shard{})
	if p, e := stripe.PutShard(good); e != api.OK || len(p) != 224 {
		t.Errorf("the shard from which they differ: %x, error %d", p, e)
	}
}

// TestSumFitsHeadDoesNot: bytes with a right sum whose head tells no shard (P6.2).
func TestSumFitsHeadDoesNot(t *testing.T) {
	for name, s := range wrongs() {
		noShard(t, name, schoolPut(s))
	}
	good := schoolPut(api.Shard{Block: 2, Sequence: 9, Index: 1, K: 2, M: 1, Data: full('x')[:192]})
	for at := range 224 - 4 {
		for _, turn := range []byte{1, 0x80, 0xff, 0x20} {
			p := bytes.Clone(good[:220])
			p[at] ^= turn
			p = summed(p)
			s, e := stripe.GetShard(p)
			head := at < 4 || at >= 19 && at < 28
			switch {
			case head && e != api.ErrShard:
				t.Errorf("the byte %d with %x turned, and a sum that fits: %+v, error %d", at, turn, s, e)
			case e == api.OK && !bytes.Equal(schoolPut(s), p):
				t.Errorf("the byte %d with %x turned: the shard %+v has other bytes", at, turn, s)
			case at >= 28 && e != api.OK:
				t.Errorf("other data at %d, and a sum that fits: error %d", at, e)
			}
		}
	}
}

// TestChangedBytes: no byte of a shard can be another one (P6.2).
func TestChangedBytes(t *testing.T) {
	for k := 1; k <= 4; k++ {
		good := schoolPut(api.Shard{Block: 77, Sequence: 1 << 40, Index: k, K: k, M: 2, Data: full('y')[:384/k]})
		for at := range good {
			for turn := 1; turn < 256; turn++ {
				p := bytes.Clone(good)
				p[at] ^= byte(turn)
				noShard(t, "a byte changed", p)
			}
		}
	}
}

// TestWrongLengths: bytes that are too few or too many (P6.2).
func TestWrongLengths(t *testing.T) {
	noShard(t, "nil", nil)
	noShard(t, "only a mark", []byte("SHRD"))
	for k := 1; k <= 4; k++ {
		good := schoolPut(api.Shard{Block: 5, Sequence: 6, Index: 0, K: k, M: 0, Data: full('z')[:384/k]})
		for n := range good {
			noShard(t, "a beginning", good[:n])
			noShard(t, "an end", good[n+1:])
			if n != len(good)-4 {
				noShard(t, "a beginning whose sum fits", summed(good[:n]))
			}
			noShard(t, "zeros", make([]byte, n))
		}
		for _, more := range [][]byte{{0}, {0, 0, 0, 0}, good} {
			noShard(t, "bytes behind", append(bytes.Clone(good), more...))
			noShard(t, "bytes ahead", append(bytes.Clone(more), good...))
		}
		body := good[:len(good)-4]
		noShard(t, "a byte of data more, and a sum that fits", summed(append(bytes.Clone(body), 'z')))
		noShard(t, "a byte of data less, and a sum that fits", summed(body[:len(body)-1]))
	}
}

// TestSumOtherwise: a sum with its highest byte first is none (P6.2).
func TestSumOtherwise(t *testing.T) {
	p := schoolPut(api.Shard{Block: 5, Sequence: 6, Index: 0, K: 4, M: 0, Data: full('z')[:96]})
	p[124], p[125], p[126], p[127] = p[127], p[126], p[125], p[124]
	noShard(t, "the sum turned round", p)
}
