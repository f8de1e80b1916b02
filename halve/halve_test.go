package halve_test

import (
	"math"
	"slices"
	"testing"

	"warder/halve"
)

func TestCap(t *testing.T) {
	for r, want := range map[int]int{math.MinInt: 0, -1: 0, 0: 0, 1: 1, 2: 3, 3: 7, 4: 15, 10: 1023, 19: 1<<19 - 1, 20: 1<<20 - 1, 21: 1<<20 - 1, 63: 1<<20 - 1, 64: 1<<20 - 1, math.MaxInt: 1<<20 - 1} {
		if g := halve.Cap(r); g != want {
			t.Error(r, g)
		}
	}
}

func TestClipAndMerge(t *testing.T) {
	for r := -1; r < 6; r++ {
		most := halve.Cap(r)
		for a := -3; a < 40; a++ {
			want := min(max(a, 0), most)
			if g := halve.Clip(a, r); g != want {
				t.Error(a, r, g)
			}
			for b := -3; b < 40; b++ {
				if g := halve.Merge(a, b, r); g != min(want+1+min(max(b, 0), most), most) {
					t.Error(a, b, r, g)
				}
			}
		}
	}
	for _, r := range []int{2, 20, 99} {
		most := halve.Cap(r)
		for _, x := range [][3]int{{math.MaxInt, math.MaxInt, most}, {math.MinInt, math.MinInt, 1}, {math.MaxInt, 0, most}, {0, math.MaxInt, most}, {-5, 1, 2}} {
			if g := halve.Merge(x[0], x[1], r); g != x[2] {
				t.Error(x, r, g)
			}
		}
		if halve.Clip(math.MaxInt, r) != most || halve.Clip(math.MinInt, r) != 0 || halve.Clip(most, r) != most || halve.Clip(most+1, r) != most || halve.Clip(most-1, r) != most-1 {
			t.Error("clip", r)
		}
	}
}

func TestExamples(t *testing.T) {
	for _, x := range []struct {
		g, r int
		want [][2]int
	}{
		{2, 2, [][2]int{{0, 1}, {1, 0}}}, {3, 2, [][2]int{{0, 1}, {1, 0}, {1, 1}}}, {1, 2, [][2]int{{0, 0}}}, {9, 2, [][2]int{{0, 1}, {1, 0}, {1, 1}}}, {1, 1, [][2]int{{0, 0}}}, {5, 1, [][2]int{{0, 0}}}, {math.MaxInt, 1, [][2]int{{0, 0}}},
		{4, 3, [][2]int{{0, 3}, {1, 2}, {2, 1}, {3, 0}}}, {5, 3, [][2]int{{0, 3}, {1, 3}, {2, 2}, {3, 0}, {3, 1}}}, {6, 3, [][2]int{{0, 3}, {1, 3}, {2, 3}, {3, 0}, {3, 1}, {3, 2}}}, {7, 3, [][2]int{{0, 3}, {1, 3}, {2, 3}, {3, 0}, {3, 1}, {3, 2}, {3, 3}}},
		{0, 3, nil}, {-1, 3, nil}, {3, 0, nil}, {3, -1, nil}, {math.MinInt, 3, nil}, {3, math.MinInt, nil},
	} {
		if g := halve.Splits(x.g, x.r); !slices.Equal(g, x.want) || x.want == nil && g != nil {
			t.Error(x.g, x.r, g)
		}
	}
	for r, want := range map[int][]int{math.MinInt: nil, -1: nil, 0: nil, 1: {0}, 2: {0, 1}, 3: {0, 1, 2, 3}} {
		if g := halve.Outer(r); !slices.Equal(g, want) || want == nil && g != nil {
			t.Error(r, g)
		}
	}
	if g := halve.Outer(5); len(g) != 16 || g[15] != 15 {
		t.Error(g)
	}
}

func TestManyWrites(t *testing.T) {
	for _, r := range []int{20, 21, 22, 70, math.MaxInt} {
		want := 1 << 20
		if r == 20 {
			want = 1 << 19
		}
		if g := halve.Outer(r); len(g) != want || g[want-1] != want-1 {
			t.Error(r, len(g))
		}
		if g := halve.Splits(5, r); !slices.Equal(g, [][2]int{{0, 4}, {1, 3}, {2, 2}, {3, 1}, {4, 0}}) {
			t.Error(r, g)
		}
		if g := halve.Splits(math.MaxInt, r); r == 20 && (len(g) != 2*want-1 || g[0] != [2]int{0, want - 1} || g[len(g)-1] != [2]int{want - 1, want - 1}) {
			t.Error(r, len(g))
		}
	}
}

// the splits of a gap of just g numbers, put one by one
func splits(g, r int) [][2]int {
	var l [][2]int
	most := halve.Cap(r - 1)
	for left := range g {
		x := [2]int{min(left, most), min(g-1-left, most)}
		if !slices.Contains(l, x) {
			l = append(l, x)
		}
	}
	slices.SortFunc(l, func(a, b [2]int) int {
		if a[0] != b[0] {
			return a[0] - b[0]
		}
		return a[1] - b[1]
	})
	return l
}

func TestSplitsOfAnyGap(t *testing.T) {
	for r := 1; r < 6; r++ {
		for g := 1; g < 80; g++ {
			if l := halve.Splits(g, r); !slices.Equal(l, splits(g, r)) || !slices.Equal(l, halve.Splits(halve.Clip(g, r), r)) {
				t.Error(g, r, l)
			}
		}
	}
}
