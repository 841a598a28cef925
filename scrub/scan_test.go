package scrub_test

import (
	"testing"

	"granary/api"
	"granary/disk"
	"granary/scrub"
	"granary/stripe"
)

// TestNew: at the block 0, with nothing found, and the device is as it was (P7.1).
func TestNew(t *testing.T) {
	if scrub.New(nil) != nil {
		t.Error("there is a scrubber without a device")
	}
	everyCount(3, 5, func(g api.Geometry) {
		d, disks := made(t, g, 2)
		d.Write(2, full('x'))
		disks[0].Lose(0)
		before := copies(disks)
		s := scrub.New(d)
		if s == nil {
			t.Fatal("no scrubber")
		}
		stands(t, s, 0, api.Tally{})
		untouched(t, "New", disks, before)
	})
}

// TestNeverOpened: a device that was never opened has no blocks; whoever hands it in meets no panic.
func TestNeverOpened(t *testing.T) {
	d := new(stripe.Device)
	if s := scrub.New(d); s != nil {
		t.Error("there is a scrubber without blocks")
	}
	refused(t, "a device that was never opened", d, nil, api.ErrNone)
}

// TestExamples: those of the chapter.
func TestExamples(t *testing.T) {
	d, disks := made(t, small, 1)
	s := scrub.New(d)
	finds(t, s, api.Scan{Block: 0, Kind: api.ScanRight})
	finds(t, s, api.Scan{Block: 1, Kind: api.ScanEmpty})
	finds(t, s, api.Scan{Block: 2, Kind: api.ScanEmpty})
	want(t, "Lose", disks[1].Lose(0), api.OK)
	finds(t, s, api.Scan{Block: 0, Kind: api.ScanHealed, Wrong: []int{1}})
	passes(t, s, 2)
	finds(t, s, api.Scan{Block: 0, Kind: api.ScanRight})
	passes(t, s, 2)
	disks[0].Lose(0)
	disks[1].Lose(0)
	finds(t, s, api.Scan{Block: 0, Kind: api.ScanGone, Wrong: []int{0, 1}})
	stands(t, s, 1, api.Tally{Steps: 10, Passes: 3, Right: 2, Wrong: 3, Healed: 1, Gone: []int{0}})
}

// hurt does to the shards of the row what the letters say: Fail, Replace, Lose, Turn, or nothing; what Look then tells, and what is to be found of the block.
func hurt(t *testing.T, g api.Geometry, disks []*disk.Disk, b int, how string) (string, api.Scan) {
	t.Helper()
	states, found := "", api.Scan{Block: b}
	right := 0
	for i, letter := range how {
		state := "W"
		switch letter {
		case 'F':
			disks[i].Fail()
			state = "F"
		case 'R':
			disks[i].Replace()
		case 'L':
			want(t, "Lose", disks[i].Lose(b), api.OK)
		case 'T':
			want(t, "Turn", disks[i].Turn(b, 40+i, 0x80000001), api.OK)
		default:
			state = "R"
			right++
		}
		if state == "W" {
			found.Wrong = append(found.Wrong, i)
		}
		states += state
	}
	switch {
	case right < g.K:
		found.Kind = api.ScanGone
	case found.Wrong == nil:
		found.Kind = api.ScanRight
	default:
		found.Kind = api.ScanHealed
	}
	return states, found
}

// TestEveryHurt: each set of shards of a block, hurt in each way: what is found, what is written, what is flushed (P7.2, P7.4, P7.8).
func TestEveryHurt(t *testing.T) {
	everyCount(2, 5, func(g api.Geometry) {
		parts(g.K+g.M, func(which []int) {
			for shift := range 4 {
				how := []byte("........")[:g.K+g.M]
				for n, i := range which {
					how[i] = "FRLT"[(n+i*shift+shift)%4]
				}
				checkHurt(t, g, string(how))
			}
		})
	})
}

// checkHurt makes a step at a block whose shards were hurt, while a write of another block waits.
func checkHurt(t *testing.T, g api.Geometry, how string) {
	t.Helper()
	d, disks := made(t, g, 1)
	states, found := hurt(t, g, disks, 0, how)
	looks(t, d, 0, states)
	d.Write(1, full('n'))
	before := copies(disks)
	s := scrub.New(d)
	finds(t, s, found)
	tally := api.Tally{Steps: 1, Wrong: uint64(len(found.Wrong))}
	switch found.Kind {
	case api.ScanGone:
		tally.Gone = []int{0}
		untouched(t, how+" is gone", disks, before)
	case api.ScanRight:
		tally.Right = 1
		reads(t, d, 0, full('a'))
		untouched(t, how+" is right", disks, before)
	default:
		tally.Healed = tally.Wrong
		checkHealed(t, how, states, disks, before)
		reads(t, d, 0, full('a'))
		reads(t, d, 1, full('n'))
	}
	stands(t, s, 1, tally)
}

// checkHealed: on each disk the waiting write is stable, and the wrong shards are, and nothing else was written.
func checkHealed(t *testing.T, how, states string, disks, before []*disk.Disk) {
	t.Helper()
	for i, each := range disks {
		n := before[i].Writes() + len(before[i].Queue())
		if states[i] == 'W' {
			n++
		}
		if each.Writes() != n || len(each.Queue()) != 0 {
			t.Errorf("%s: the disk %d has %d writes, and %d wait, want %d and 0", how, i, each.Writes(), len(each.Queue()), n)
		}
		if len(each.Injured()) != 0 {
			t.Errorf("%s: the disk %d has %v injured", how, i, each.Injured())
		}
	}
}

// TestEmpty: a block that lies nowhere, whatever its disks are like, is told so and changes nothing (P7.2).
func TestEmpty(t *testing.T) {
	everyCount(3, 6, func(g api.Geometry) {
		d, disks := made(t, g, 1)
		s := scrub.New(d)
		passes(t, s, 1)
		d.Write(0, full('w'))
		for i, each := range disks {
			each.Lose(4)
			if i%2 == 1 {
				each.Fail()
			}
		}
		before := copies(disks)
		finds(t, s, api.Scan{Block: 1, Kind: api.ScanEmpty})
		finds(t, s, api.Scan{Block: 2, Kind: api.ScanEmpty})
		untouched(t, "empty", disks, before)
		stands(t, s, 0, api.Tally{Steps: 3, Passes: 1, Right: 1})
	})
}

// TestFailedAlone: failed disks are not wrong: with M of them the block is right, with one more it is gone (P7.2).
func TestFailedAlone(t *testing.T) {
	everyCount(1, 3, func(g api.Geometry) {
		d, disks := made(t, g, 1)
		s := scrub.New(d)
		for i := range disks {
			kind := api.ScanRight
			if i > g.M {
				kind = api.ScanGone
			}
			finds(t, s, api.Scan{Kind: kind})
			disks[i].Fail()
		}
		finds(t, s, api.Scan{Kind: api.ScanGone})
	})
}

// TestOtherShards: a shard of another block, sequence or Index is wrong too, and is written over (P7.2).
func TestOtherShards(t *testing.T) {
	for n := range 3 {
		d, disks := made(t, small, 2)
		other := api.Shard{Block: 0, Sequence: 1, Index: 2, K: 2, M: 1, Data: full('z')[:192]}
		switch n {
		case 0:
			other.Block = 1
		case 1:
			other.Sequence = 2
		case 2:
			other.Index = 1
		}
		p, e := stripe.PutShard(other)
		want(t, "PutShard", e, api.OK)
		want(t, "Write", disks[2].Write(0, p), api.OK)
		s := scrub.New(d)
		finds(t, s, api.Scan{Kind: api.ScanHealed, Wrong: []int{2}})
		finds(t, s, api.Scan{Block: 1, Kind: api.ScanRight})
		reads(t, d, 0, full('a'))
	}
}

// refusing is a device of two blocks whose disks have full queues, with the block 0 flushed in the row 0.
func refusing(t *testing.T, k, m int) (*stripe.Device, []*disk.Disk) {
	t.Helper()
	d, disks := made(t, api.Geometry{K: k, M: m, Blocks: 2, Rows: 4200}, 1)
	for range api.MaxQueue {
		want(t, "Write", d.Write(1, full('q')), api.OK)
	}
	return d, disks
}

// TestHealRefused: a disk that refuses in the middle of a Heal: the error is told, what was written ahead of it waits still, and a later pass heals the rest (P7.2, P7.4).
func TestHealRefused(t *testing.T) {
	d, disks := refusing(t, 1, 3)
	disks[0].Replace()
	disks[1].Lose(0)
	disks[2].Flush()
	disks[2].Lose(0)
	looks(t, d, 0, "WWWR")
	s := scrub.New(d)
	before := copies(disks)
	finds(t, s, api.Scan{Kind: api.ScanError, Wrong: []int{0, 1, 2}, Err: api.ErrMany})
	stands(t, s, 1, api.Tally{Steps: 1, Wrong: 3})
	looks(t, d, 0, "RWWR")
	if q := disks[0].Queue(); len(q) != 1 || q[0].At != 0 || disks[0].Writes() != before[0].Writes() {
		t.Errorf("the disk 0 has %d waiting, and %d writes", len(q), disks[0].Writes())
	}
	untouched(t, "behind the refusal", disks[1:], before[1:])
	// The block 1 lacks the shard of the disk that was replaced; its healing flushes all.
	finds(t, s, api.Scan{Block: 1, Kind: api.ScanHealed, Wrong: []int{0}})
	finds(t, s, api.Scan{Kind: api.ScanHealed, Wrong: []int{1, 2}})
	stands(t, s, 1, api.Tally{Steps: 3, Passes: 1, Wrong: 6, Healed: 3})
	looks(t, d, 0, "RRRR")
	reads(t, d, 0, full('a'))
}

// TestNoneWritten: where the first disk refuses, nothing has changed (P7.2).
func TestNoneWritten(t *testing.T) {
	d, disks := refusing(t, 2, 2)
	disks[1].Lose(0)
	disks[3].Fail()
	before := copies(disks)
	s := scrub.New(d)
	finds(t, s, api.Scan{Kind: api.ScanError, Wrong: []int{1}, Err: api.ErrMany})
	untouched(t, "refused", disks, before)
	finds(t, s, api.Scan{Block: 1, Kind: api.ScanRight})
	untouched(t, "right", disks, before)
	stands(t, s, 0, api.Tally{Steps: 2, Passes: 1, Right: 1, Wrong: 1})
}

// TestWaiting: a block whose write waits is looked at there, and an injury of what is stable is not seen through it (P7.2).
func TestWaiting(t *testing.T) {
	d, disks := made(t, small, 0)
	d.Write(0, full('w'))
	s := scrub.New(d)
	disks[0].Lose(0)
	before := copies(disks)
	finds(t, s, api.Scan{Kind: api.ScanRight})
	untouched(t, "waiting", disks, before)
	passes(t, s, 2)
	disks[2].Crash(nil)
	finds(t, s, api.Scan{Kind: api.ScanHealed, Wrong: []int{2}})
	for _, each := range disks {
		each.Crash(nil)
	}
	reads(t, d, 0, full('w'))
	looks(t, d, 0, "RRR")
}

// TestGoesRound: block by block, and behind the last one a pass is over (P7.2, P7.4).
func TestGoesRound(t *testing.T) {
	for _, blocks := range []int{1, 2, 3, 7} {
		d, _ := made(t, api.Geometry{K: 1, M: 1, Blocks: blocks, Rows: blocks + 1}, 1)
		s := scrub.New(d)
		for n := range 4*blocks + 1 {
			round := uint64(n / blocks)
			first := round
			if n%blocks > 0 {
				first++
			}
			stands(t, s, n%blocks, api.Tally{Steps: uint64(n), Passes: round, Right: first})
			found := api.Scan{Block: n % blocks, Kind: api.ScanEmpty}
			if n%blocks == 0 {
				found.Kind = api.ScanRight
			}
			finds(t, s, found)
		}
	}
}

// TestOthersBetween: others may use the device between steps: each step finds what is there then (P7.2).
func TestOthersBetween(t *testing.T) {
	d, disks := made(t, small, 0)
	s := scrub.New(d)
	finds(t, s, api.Scan{Block: 0, Kind: api.ScanEmpty})
	d.Write(1, full('b'))
	finds(t, s, api.Scan{Block: 1, Kind: api.ScanRight})
	d.Flush()
	d.Write(2, full('c'))
	d.Flush()
	row, _ := d.RowOf(2)
	disks[0].Turn(row, 7, 1)
	finds(t, s, api.Scan{Block: 2, Kind: api.ScanHealed, Wrong: []int{0}})
	d.Write(0, full('d'))
	finds(t, s, api.Scan{Block: 0, Kind: api.ScanRight})
	stands(t, s, 1, api.Tally{Steps: 4, Passes: 1, Right: 2, Wrong: 1, Healed: 1})
}
