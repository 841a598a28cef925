package gf_test

import (
	"math"
	"slices"
	"testing"

	"granary/gf"
)

// call is one that is handed lists and answers one.
type call struct {
	name  string
	lists [][]byte
	run   func(l [][]byte) []byte
}

func calls() []call {
	four, pair := []byte{1, 2, 3, 4}, []byte{5, 6}
	return []call{
		{"Scale", [][]byte{four}, func(l [][]byte) []byte { return gf.Scale(3, l[0]) }},
		{"Scale by 1", [][]byte{four}, func(l [][]byte) []byte { return gf.Scale(1, l[0]) }},
		{"Scale by 0", [][]byte{four}, func(l [][]byte) []byte { return gf.Scale(0, l[0]) }},
		{"Scale of none", [][]byte{{}}, func(l [][]byte) []byte { return gf.Scale(2, l[0]) }},
		{"Sum", [][]byte{four, {9, 8, 7, 6}}, func(l [][]byte) []byte { p, _ := gf.Sum(l[0], l[1]); return p }},
		{"Sum with zeros", [][]byte{four, {0, 0, 0, 0}}, func(l [][]byte) []byte { p, _ := gf.Sum(l[0], l[1]); return p }},
		{"Sum of none", [][]byte{{}, {}}, func(l [][]byte) []byte { p, _ := gf.Sum(l[0], l[1]); return p }},
		{"Sum, unlike", [][]byte{four, pair}, func(l [][]byte) []byte { p, _ := gf.Sum(l[0], l[1]); return p }},
		{"Eval", [][]byte{four}, func(l [][]byte) []byte { return []byte{gf.Eval(l[0], 7)} }},
		{"Through", [][]byte{four, {9, 8, 7, 6}}, func(l [][]byte) []byte { p, _ := gf.Through(l[0], l[1]); return p }},
		{"Through one", [][]byte{{4}, {9}}, func(l [][]byte) []byte { p, _ := gf.Through(l[0], l[1]); return p }},
		{"Through twice", [][]byte{{4, 4}, pair}, func(l [][]byte) []byte { p, _ := gf.Through(l[0], l[1]); return p }},
		{"Make", [][]byte{four}, func(l [][]byte) []byte { m, _ := gf.Make(2, 2, l[0]); return m.Cells }},
		{"Make, wrong", [][]byte{four}, func(l [][]byte) []byte { m, _ := gf.Make(2, 3, l[0]); return m.Cells }},
		{"Check", [][]byte{four}, func(l [][]byte) []byte { return []byte{byte(gf.Check(matrix(2, 2, l[0]...)))} }},
		{"Identity", nil, func(l [][]byte) []byte { m, _ := gf.Identity(3); return m.Cells }},
		{"Powers", nil, func(l [][]byte) []byte { m, _ := gf.Powers(3, 3); return m.Cells }},
		{"Product", [][]byte{four, {9, 8, 7, 6}}, func(l [][]byte) []byte {
			m, _ := gf.Product(matrix(2, 2, l[0]...), matrix(2, 2, l[1]...))
			return m.Cells
		}},
		{"Product by one", [][]byte{{1, 0, 0, 1}, four}, func(l [][]byte) []byte {
			m, _ := gf.Product(matrix(2, 2, l[0]...), matrix(2, 2, l[1]...))
			return m.Cells
		}},
		{"Turn", [][]byte{four}, func(l [][]byte) []byte { m, _ := gf.Turn(matrix(2, 2, l[0]...)); return m.Cells }},
		{"Turn of a row", [][]byte{four}, func(l [][]byte) []byte { m, _ := gf.Turn(matrix(1, 4, l[0]...)); return m.Cells }},
		{"Rows", [][]byte{four}, func(l [][]byte) []byte { m, _ := gf.Rows(matrix(2, 2, l[0]...), []int{1, 0}); return m.Cells }},
		{"all Rows", [][]byte{four}, func(l [][]byte) []byte { m, _ := gf.Rows(matrix(2, 2, l[0]...), []int{0, 1}); return m.Cells }},
		{"Rank", [][]byte{{0, 2, 3, 4}}, func(l [][]byte) []byte { n, _ := gf.Rank(matrix(2, 2, l[0]...)); return []byte{byte(n)} }},
		{"Inverse", [][]byte{{0, 2, 3, 4}}, func(l [][]byte) []byte { m, _ := gf.Inverse(matrix(2, 2, l[0]...)); return m.Cells }},
		{"Inverse of one", [][]byte{{1, 0, 0, 1}}, func(l [][]byte) []byte { m, _ := gf.Inverse(matrix(2, 2, l[0]...)); return m.Cells }},
		{"Inverse, flat", [][]byte{{7, 7, 7, 7}}, func(l [][]byte) []byte { m, _ := gf.Inverse(matrix(2, 2, l[0]...)); return m.Cells }},
		{"Solve", [][]byte{{0, 2, 3, 4}, pair}, func(l [][]byte) []byte { x, _ := gf.Solve(matrix(2, 2, l[0]...), l[1]); return x }},
		{"Solve of one", [][]byte{{1, 0, 0, 1}, pair}, func(l [][]byte) []byte { x, _ := gf.Solve(matrix(2, 2, l[0]...), l[1]); return x }},
		{"Solve, flat", [][]byte{{7, 7, 7, 7}, pair}, func(l [][]byte) []byte { x, _ := gf.Solve(matrix(2, 2, l[0]...), l[1]); return x }},
	}
}

// Rule 3: lists that are handed in are not changed, nor their spare room, and not kept; answers are new each time.
func TestSharesNothing(t *testing.T) {
	for _, c := range calls() {
		var in [][]byte
		for _, p := range c.lists {
			in = append(in, roomy(p))
		}
		unchanged := func() {
			for i, p := range c.lists {
				if !isRoomy(in[i], p) {
					t.Errorf("%s: list %d was changed: %v", c.name, i, in[i][:cap(in[i])])
				}
			}
		}
		first, second := c.run(in), c.run(in)
		unchanged()
		want := slices.Clone(first)
		spoil(first)
		unchanged()
		if !slices.Equal(second, want) {
			t.Errorf("%s: two answers share memory: %v, want %v", c.name, second, want)
		}
		for _, p := range in {
			spoil(p)
		}
		if !slices.Equal(second, want) {
			t.Errorf("%s: an answer shares memory with a list: %v, want %v", c.name, second, want)
		}
	}
}

// Rule 3: the numbers of rows are a list too.
func TestRowNumbersUnchanged(t *testing.T) {
	whole := []int{1, 0, 1, 99, math.MinInt}
	which := slices.Clone(whole)
	if m, _ := gf.Rows(matrix(2, 1, 5, 6), which[:3]); !slices.Equal(m.Cells, []byte{6, 5, 6}) {
		t.Errorf("rows %v", m.Cells)
	}
	gf.Rows(matrix(2, 1, 5, 6), which[:4])
	if !slices.Equal(which, whole) {
		t.Errorf("the numbers of rows were changed: %v", which)
	}
}
