package nest_test

import (
	"math"
	"math/rand"
	"slices"
	"testing"

	"warder/nest"
)

func TestExample(t *testing.T) {
	l := []int{-1, 0, 1, 0}
	for i, want := range [][]int{nil, {0}, {1, 0}, {0}} {
		if g := nest.Above(l, i); !slices.Equal(g, want) || nest.Deep(l, i) != len(want) {
			t.Error("above", i, g)
		}
	}
	for i, want := range [][]int{{1, 2, 3}, {2}, nil, nil} {
		if g := nest.Below(l, i); !slices.Equal(g, want) {
			t.Error("below", i, g)
		}
	}
	if nest.Circle(l) != -1 || !slices.Equal(nest.Roots(l), []int{0}) {
		t.Error("circle, roots")
	}
}

func TestCircles(t *testing.T) {
	for _, x := range []struct {
		l      []int
		circle int
		roots  []int
		above  [][]int
		below  [][]int
	}{
		{[]int{0}, 0, nil, [][]int{nil}, [][]int{nil}},
		{[]int{1, 0}, 0, nil, [][]int{{1}, {0}}, [][]int{{1}, {0}}},
		{[]int{1, 2, 1}, 1, nil, [][]int{{1, 2}, {2}, {1}}, [][]int{nil, {0, 2}, {0, 1}}},
		{[]int{3, -1, 3, 2, 1}, 2, []int{1}, [][]int{{3, 2}, nil, {3}, {2}, {1}}, [][]int{nil, {4}, {0, 3}, {0, 2}, nil}},
		{[]int{1, 4, 3, 2, 5, 1}, 1, nil, [][]int{{1, 4, 5}, {4, 5}, {3}, {2}, {5, 1}, {1, 4}}, [][]int{nil, {0, 4, 5}, {3}, {2}, {0, 1, 5}, {0, 1, 4}}},
		{[]int{2, 3, 3, 2}, 2, nil, [][]int{{2, 3}, {3, 2}, {3}, {2}}, [][]int{nil, nil, {0, 1, 3}, {0, 1, 2}}},
		{[]int{99, -7, math.MaxInt, math.MinInt, 5}, -1, []int{0, 1, 2, 3, 4}, make([][]int, 5), make([][]int, 5)},
		{[]int{4, 2, 1, 0, 3}, 0, nil, [][]int{{4, 3}, {2}, {1}, {0, 4}, {3, 0}}, [][]int{{3, 4}, {2}, {1}, {0, 4}, {0, 3}}},
	} {
		if g := nest.Circle(x.l); g != x.circle {
			t.Error(x.l, "circle", g)
		}
		if g := nest.Roots(x.l); !slices.Equal(g, x.roots) {
			t.Error(x.l, "roots", g)
		}
		for i := range x.l {
			if g := nest.Above(x.l, i); !slices.Equal(g, x.above[i]) || nest.Deep(x.l, i) != len(g) {
				t.Error(x.l, "above", i, g)
			}
			if g := nest.Below(x.l, i); !slices.Equal(g, x.below[i]) {
				t.Error(x.l, "below", i, g)
			}
		}
	}
}

func TestNoPlace(t *testing.T) {
	for _, l := range [][]int{nil, {}, {-1, 0}} {
		for _, i := range []int{-1, 2, math.MaxInt, math.MinInt} {
			if nest.Above(l, i) != nil || nest.Below(l, i) != nil || nest.Deep(l, i) != 0 {
				t.Error(l, i)
			}
		}
	}
	if nest.Circle(nil) != -1 || len(nest.Roots(nil)) != 0 || nest.Above([]int{-1}, 0) != nil || nest.Below([]int{-1}, 0) != nil {
		t.Error("of nothing")
	}
}

// up is what the words say of above: in each way, step by step.
func up(l []int, i int) []int {
	var out []int
	for at := l[i]; at >= 0 && at < len(l) && at != i && !slices.Contains(out, at); at = l[at] {
		out = append(out, at)
	}
	return out
}

func TestAnyNesting(t *testing.T) {
	rnd := rand.New(rand.NewSource(10))
	for range 5000 {
		l := make([]int, 1+rnd.Intn(9))
		for i := range l {
			l[i] = rnd.Intn(len(l)+2) - 1
		}
		kept := slices.Clone(l)
		first := -1
		for i := range l {
			at, steps := l[i], 0
			for at >= 0 && at < len(l) && at != i && steps <= len(l) {
				at, steps = l[at], steps+1
			}
			if at == i && first < 0 {
				first = i
			}
			if g := nest.Above(l, i); !slices.Equal(g, up(l, i)) {
				t.Fatal(l, i, g)
			}
			var below []int
			for k := range l {
				if k != i && slices.Contains(up(l, k), i) {
					below = append(below, k)
				}
			}
			if g := nest.Below(l, i); !slices.Equal(g, below) {
				t.Fatal(l, i, g, below)
			}
		}
		if g := nest.Circle(l); g != first {
			t.Fatal(l, g, first)
		}
		if first < 0 {
			roots := nest.Roots(l)
			for i := range l {
				a := nest.Above(l, i)
				if !slices.Contains(roots, i) && !slices.Contains(roots, a[len(a)-1]) {
					t.Fatal(l, i)
				}
				for k := range l {
					if slices.Contains(a, k) != slices.Contains(nest.Below(l, k), i) {
						t.Fatal(l, i, k)
					}
				}
			}
		}
		if !slices.Equal(l, kept) {
			t.Fatal("what is handed in is changed")
		}
	}
}
