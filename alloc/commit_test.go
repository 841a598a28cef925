package alloc_test

import (
	"testing"

	"granary/api"
)

// TestAsTheyCame: Taken and Given tell blocks in the order in which they came to that state (P10.2).
func TestAsTheyCame(t *testing.T) {
	x := loaded(t, 12, 0xf0, 0x0f)
	x.takes(2, 2)
	x.marks(0)
	x.reserves(1)
	x.takesReserved(3, 3)
	x.takes(0, 1)
	told(t, "Taken", x.a.Taken(), 2, 0, 3, 1)
	x.gives(0)
	told(t, "Taken without 0", x.a.Taken(), 2, 3, 1)
	x.takes(0, 0)
	told(t, "Taken with 0 again", x.a.Taken(), 2, 3, 1, 0)
	x.gives(2, 3)
	x.marks(3, 2)
	told(t, "Taken, marked again", x.a.Taken(), 1, 0, 3, 2)
	x.gives(9, 4, 11, 5)
	told(t, "Given", x.a.Given(), 9, 4, 11, 5)
	x.a.Abort()
	told(t, "Taken behind Abort", x.a.Taken())
	told(t, "Given behind Abort", x.a.Given())
	x.gives(5, 9)
	x.marks(1, 0)
	told(t, "Taken of the next", x.a.Taken(), 1, 0)
	told(t, "Given of the next", x.a.Given(), 5, 9)
	x.commits([]int{0, 1}, []int{5, 9})
	told(t, "Taken behind Commit", x.a.Taken())
	told(t, "Given behind Commit", x.a.Given())
	x.gives(1, 4, 0)
	x.marks(9, 2, 5)
	told(t, "Taken of the last", x.a.Taken(), 9, 2, 5)
	told(t, "Given of the last", x.a.Given(), 1, 4, 0)
}

// TestCommit: taken blocks are used, given ones free, and both lists rise (P10.6).
func TestCommit(t *testing.T) {
	x := loaded(t, 10, 0x1f, 0x00)
	x.marks(9, 6, 8)
	x.gives(4, 0, 2)
	x.reserves(2)
	x.states("gugugftftt")
	x.commits([]int{6, 8, 9}, []int{0, 2, 4})
	x.states("fufuffufuu")
	x.counts(5, 2)
	x.commits(nil, nil)
	x.states("fufuffufuu")
	x.marks(0)
	x.gives(0)
	x.commits(nil, nil)
	x.gives(9)
	x.commits(nil, []int{9})
	x.takes(9, 9)
	x.commits([]int{9}, nil)
	x.states("fufuffufuu")
}

// TestCommitWithHolds: given blocks are held while somebody holds, those of other commits are not touched (P10.6).
func TestCommitWithHolds(t *testing.T) {
	x := loaded(t, 8, 0x7e)
	x.gives(1)
	x.commits(nil, []int{1})
	x.a.Hold()
	x.holds(1)
	x.states("ffuuuuuf")
	x.gives(6, 3)
	x.marks(7, 0)
	x.commits([]int{0, 7}, []int{3, 6})
	x.states("ufuhuuhu")
	x.counts(1, 0)
	x.a.Hold()
	x.holds(2)
	x.gives(5, 7)
	x.commits(nil, []int{5, 7})
	x.states("ufuhuhhh")
	x.commits(nil, nil)
	x.states("ufuhuhhh")
	told(t, "the first LetGo", x.a.LetGo())
	x.holds(1)
	x.states("ufuhuhhh")
	told(t, "the second LetGo", x.a.LetGo(), 3, 5, 6, 7)
	x.holds(0)
	x.states("ufufufff")
	x.counts(5, 0)
	x.gives(0)
	x.commits(nil, []int{0})
	x.states("ffufufff")
}

// TestHeldAtCommit: what counts is whether somebody holds at Commit, not at Give (P10.6).
func TestHeldAtCommit(t *testing.T) {
	x := loaded(t, 3, 0x07)
	x.gives(1)
	x.a.Hold()
	x.commits(nil, []int{1})
	x.states("uhu")
	x.gives(2)
	told(t, "LetGo", x.a.LetGo(), 1)
	x.states("ufg")
	x.commits(nil, []int{2})
	x.states("uff")
}

// TestLetGo: at 0, 1 and 2 holds, within a transaction, which it does not touch (P10.6).
func TestLetGo(t *testing.T) {
	x := made(t, 4)
	told(t, "LetGo of nobody", x.a.LetGo())
	x.holds(0)
	x.a.Hold()
	x.holds(1)
	told(t, "LetGo of nothing", x.a.LetGo())
	x.holds(0)
	told(t, "LetGo of nobody", x.a.LetGo())
	x.holds(0)

	x = colours(t, 10)
	x.reserves(1)
	x.a.Hold()
	x.stays("one holds still", func() {
		told(t, "LetGo", x.a.LetGo())
		x.a.Hold()
	})
	told(t, "LetGo at 2", x.a.LetGo())
	x.holds(1)
	x.states("futghfutgh")
	told(t, "LetGo at 1", x.a.LetGo(), 4, 9)
	x.holds(0)
	x.states("futgffutgf")
	x.counts(4, 1)
	x.stays("nobody holds", func() { told(t, "LetGo at 0", x.a.LetGo()) })
	told(t, "Taken", x.a.Taken(), 2, 7)
	told(t, "Given", x.a.Given(), 3, 8)
	x.takes(4, 4)
	x.commits([]int{2, 4, 7}, []int{3, 8})
	x.states("fuufufuuff")
}

// TestAbort: taken blocks are free, given ones used; what is reserved and what is held stays (P10.6).
func TestAbort(t *testing.T) {
	x := loaded(t, 9, 0x3c, 0x00)
	x.reserves(2)
	x.takes(7, 7)
	x.takesReserved(0, 0)
	x.gives(5, 2, 7)
	x.a.Abort()
	x.states("ffuuuufff")
	x.counts(5, 1)
	x.holds(0)
	x.stays("nothing is under way", x.a.Abort)
	x.commits(nil, nil)

	x = colours(t, 10)
	x.reserves(2)
	x.a.Hold()
	x.a.Abort()
	x.states("fufuhfufuh")
	x.counts(4, 2)
	x.holds(2)
	told(t, "Taken", x.a.Taken())
	told(t, "Given", x.a.Given())
	x.stays("nothing is under way", x.a.Abort)
	x.gives(3)
	told(t, "LetGo", x.a.LetGo())
	x.a.Abort()
	told(t, "LetGo", x.a.LetGo(), 4, 9)
	x.states("fufuffufuf")
}

// TestReservedStays: by Commit, too (P10.6).
func TestReservedStays(t *testing.T) {
	for _, hold := range []bool{false, true} {
		x := loaded(t, 6, 0x03)
		if hold {
			x.a.Hold()
		}
		x.reserves(3)
		x.takes(5, 5)
		x.gives(0)
		x.a.Commit()
		if x.a.Reserved() != 3 {
			t.Errorf("Reserved: %d", x.a.Reserved())
		}
		want(t, "Release", x.a.Release(3), api.OK)
	}
}

// TestBitmap: the bits of used and given blocks, in each state (P10.7).
func TestBitmap(t *testing.T) {
	x := colours(t, 10)
	x.states("futghfutgh")
	x.bitmap(0x4a, 0x01)
	x.reserves(2)
	x.bitmap(0x4a, 0x01)
	x.commits([]int{2, 7}, []int{3, 8})
	x.bitmap(0xc6, 0x00)
	for _, blocks := range []int{1, 7, 8, 9, 16, 17} {
		for b := range blocks {
			x := made(t, blocks)
			x.marks(b)
			x.bitmap(make([]byte, (blocks+7)/8)...)
			x.a.Commit()
			wanted := make([]byte, (blocks+7)/8)
			wanted[b/8] = 1 << (b % 8)
			x.bitmap(wanted...)
			x.gives(b)
			x.bitmap(wanted...)
			x.a.Commit()
			x.bitmap(make([]byte, (blocks+7)/8)...)
		}
	}
}

// TestRuns: the longest stretches of free blocks: none, all, at both ends, in between (P10.7).
func TestRuns(t *testing.T) {
	cases := []struct {
		blocks int
		bitmap []byte
		runs   [][2]int
	}{
		{1, []byte{0x00}, [][2]int{{0, 1}}},
		{1, []byte{0x01}, nil},
		{8, []byte{0xff}, nil},
		{8, []byte{0x00}, [][2]int{{0, 8}}},
		{9, []byte{0x00, 0x00}, [][2]int{{0, 9}}},
		{9, []byte{0xff, 0x00}, [][2]int{{8, 1}}},
		{9, []byte{0xfe, 0x01}, [][2]int{{0, 1}}},
		{9, []byte{0xfe, 0x00}, [][2]int{{0, 1}, {8, 1}}},
		{9, []byte{0x3c, 0x00}, [][2]int{{0, 2}, {6, 3}}},
		{9, []byte{0xc3, 0x01}, [][2]int{{2, 4}}},
		{9, []byte{0x55, 0x01}, [][2]int{{1, 1}, {3, 1}, {5, 1}, {7, 1}}},
		{9, []byte{0xaa, 0x00}, [][2]int{{0, 1}, {2, 1}, {4, 1}, {6, 1}, {8, 1}}},
		{17, []byte{0x7f, 0x80, 0x00}, [][2]int{{7, 8}, {16, 1}}},
	}
	for _, c := range cases {
		told(t, "Runs", loaded(t, c.blocks, c.bitmap...).a.Runs(), c.runs...)
	}
	x := colours(t, 12)
	x.states("futghfutghfu")
	told(t, "Runs", x.a.Runs(), [2]int{0, 1}, [2]int{5, 1}, [2]int{10, 1})
	x.reserves(3)
	x.gives(7)
	told(t, "Runs of reserved", x.a.Runs(), [2]int{0, 1}, [2]int{5, 1}, [2]int{7, 1}, [2]int{10, 1})
	x.a.LetGo()
	told(t, "Runs behind LetGo", x.a.Runs(), [2]int{0, 1}, [2]int{4, 2}, [2]int{7, 1}, [2]int{9, 2})
	x.commits([]int{2}, []int{3, 8})
	told(t, "Runs behind Commit", x.a.Runs(), [2]int{0, 1}, [2]int{3, 3}, [2]int{7, 4})
}
