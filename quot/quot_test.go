package quot_test

import (
	"math"
	"math/rand"
	"slices"
	"testing"

	"warder/label"
	"warder/quot"
)

func TestClasses(t *testing.T) {
	for i, x := range []struct {
		next   [][]int
		colour []int
		want   []int
	}{
		{[][]int{{1}, {0}, {2}}, nil, []int{0, 0, 0}}, {nil, nil, nil}, {nil, []int{4}, nil}, {[][]int{{1}, {0}, {2}}, []int{5, 5, 7}, []int{0, 0, 1}}, {[][]int{{1}, {0}, {2}}, []int{5, 7, 5}, []int{0, 1, 2}}, {[][]int{{1}, {0}, {2}}, []int{0, -1}, []int{0, 1, 2}},
		{[][]int{{1}, {2}, {2}}, nil, []int{0, 0, 0}}, {[][]int{{1}, {2}, nil}, nil, []int{0, 1, 2}}, {[][]int{{1}, {2}, {3}, nil, {3}}, nil, []int{0, 1, 2, 3, 2}}, {[][]int{nil, nil}, nil, []int{0, 0}}, {[][]int{nil, nil, nil}, []int{9, 0}, []int{0, 1, 1}}, {[][]int{nil, nil}, []int{1, 1, 2, 3}, []int{0, 0}},
		// numbers that are no place count for nothing, and how often a place follows neither
		{[][]int{{9, -1}, nil, {math.MaxInt, math.MinInt, 3}}, nil, []int{0, 0, 0}}, {[][]int{{1, 1}, {0, 0, 0}, {0, 1, 7}}, nil, []int{0, 0, 0}}, {[][]int{{3, 2}, {2, 3}, nil, {3}}, nil, []int{0, 0, 1, 2}},
		{[][]int{{1, 2}, {3}, {4}, {3}, {4}}, []int{0, 1, 1, 2, 3}, []int{0, 1, 2, 3, 4}}, {[][]int{{1, 2}, {3}, {4}, {3}, {4}}, []int{0, 1, 1, 2, 2}, []int{0, 1, 1, 2, 2}}, {[][]int{{0}, {1}}, []int{math.MinInt, math.MaxInt}, []int{0, 1}}, {[][]int{{0}, {1}, {2}}, []int{12, 1, 2}, []int{0, 1, 2}},
	} {
		got := quot.Classes(x.next, x.colour)
		if !slices.Equal(got, x.want) {
			t.Error(i, got)
		}
		if !quot.Fit(x.next, x.colour, got) {
			t.Error(i, "they fit")
		}
	}
}

func TestManyClasses(t *testing.T) {
	// class 1, which class 2 follows, and class 12, which none follows; and so on
	var colour, want []int
	for i := range 130 {
		colour, want = append(colour, 1000+i), append(want, i)
	}
	next := make([][]int, 130)
	next[1], next[11], next[2] = []int{2, 3}, []int{2}, []int{11, 1}
	if g := quot.Classes(next, colour); !slices.Equal(g, want) {
		t.Error(g)
	}
}

func TestFit(t *testing.T) {
	next := [][]int{{1, 9}, {0}, {2, 2}, {-1}}
	for i, x := range []struct {
		colour, class []int
		want          bool
	}{
		{nil, []int{0, 0, 0, 1}, true}, {nil, []int{0, 0, 0, 0}, false}, {nil, []int{0, 1, 2, 3}, true}, {nil, []int{7, 7, -4, 99}, true}, {nil, []int{0, 1, 0, 2}, false}, {nil, []int{0, 0, 0}, false}, {nil, nil, false}, {nil, []int{0, 0, 0, 1, 1}, false},
		{[]int{1, 1, 1, 0}, []int{0, 0, 0, 1}, true}, {[]int{1, 1}, []int{0, 0, 0, 1}, false}, {[]int{1, 1}, []int{0, 0, 5, 1}, true}, {[]int{0, 0, 0, 4}, []int{3, 3, 3, 1}, true}, {[]int{0, 4}, []int{3, 3, 3, 1}, false}, {[]int{0, 0, 0, 0, 8, 9}, []int{0, 0, 0, 1}, true},
	} {
		if g := quot.Fit(next, x.colour, x.class); g != x.want {
			t.Error(i, g)
		}
	}
	if !quot.Fit(nil, []int{1}, nil) || quot.Fit(nil, nil, []int{0}) {
		t.Error("no places")
	}
}

func TestShrunk(t *testing.T) {
	for i, x := range []struct {
		next  [][]int
		class []int
		want  [][]int
	}{
		{[][]int{{1}, {0}, {2}}, []int{0, 0, 0}, [][]int{{0}}}, {[][]int{{2, 1, 2}, {0}, {2, 9, -1}}, []int{0, 1, 2}, [][]int{{1, 2}, {0}, {2}}}, {[][]int{{2, 1}, {0}, {2}}, []int{1, 1, 0}, [][]int{{0}, {0, 1}}}, {nil, nil, nil}, {nil, []int{3, 4}, nil}, {[][]int{{0}}, nil, nil}, {[][]int{{0}}, []int{-1}, nil},
		// no further than to next's last place; the greatest of all numbers
		{[][]int{{1}, {0}}, []int{0, 99}, [][]int{{}, {}}}, {[][]int{{1}, {0}}, []int{0, 2}, [][]int{{}, {}}}, {[][]int{{1}, {0}}, []int{0, 0, 7}, [][]int{{0}, {}}}, {[][]int{{1}, {0}, {0}}, []int{0, 0, 0, 1}, [][]int{{0}, {}}}, {[][]int{{1}, {0}, {0}}, []int{2, 2, 2}, [][]int{{}, {}, {2}}}, {[][]int{{0}}, []int{math.MaxInt}, [][]int{{}}}, {[][]int{{0}, {1}}, []int{math.MinInt, 0}, [][]int{{0}}},
		// a place without a number in class counts as of class 0, numbers of no row for nothing
		{[][]int{{2}, {1}, {0}}, []int{0, 1}, [][]int{{0}, {1}}}, {[][]int{{1, 2}, {2}, {0}}, []int{1, 0}, [][]int{{0}, {0}}}, {[][]int{{1, 0, 2}, {2}, {0}}, []int{1, -5, 1}, [][]int{{}, {1}}}, {[][]int{{1, 0}, {0}}, []int{1, 8}, [][]int{{}, {1}}},
		// of several places the first one
		{[][]int{{0}, {1}, {0, 1}}, []int{0, 1, 0}, [][]int{{0}, {1}}}, {[][]int{{0, 1}, {1}, {0}}, []int{0, 1, 0}, [][]int{{0, 1}, {1}}},
	} {
		kept := slices.Clone(x.class)
		got := quot.Shrunk(x.next, x.class)
		if !slices.EqualFunc(got, x.want, slices.Equal[[]int]) {
			t.Error(i, got)
		}
		if !slices.Equal(kept, x.class) {
			t.Error(i, "what is handed in is changed")
		}
	}
}

func TestTheCoarsest(t *testing.T) {
	rnd := rand.New(rand.NewSource(47))
	for range 3000 {
		n := 1 + rnd.Intn(6)
		next, colour := make([][]int, n), make([]int, n)
		for i := range next {
			for range rnd.Intn(3) {
				next[i] = append(next[i], rnd.Intn(n+1))
			}
			colour[i] = rnd.Intn(2)
		}
		got := quot.Classes(next, colour)
		if !quot.Fit(next, colour, got) {
			t.Fatal(next, colour, got)
		}
		seen := -1
		for _, c := range got {
			if c > seen+1 {
				t.Fatal("numbered by first places", got)
			}
			seen = max(seen, c)
		}
		// two places that some classes that fit have in one are in one
		class := make([]int, n)
		var try func(i int)
		try = func(i int) {
			if i < n {
				for c := range i + 1 {
					class[i] = c
					try(i + 1)
				}
				return
			}
			if quot.Fit(next, colour, class) {
				for a := range n {
					for b := range a {
						if class[a] == class[b] && got[a] != got[b] {
							t.Fatal(next, colour, class, got)
						}
					}
				}
			}
		}
		if n < 5 {
			try(0)
		}
		// the same ways lead from places of one class, and in what is shrunk
		small := quot.Shrunk(next, got)
		set := make([]bool, n)
		short := make([]bool, len(small))
		for i := range n {
			set[i] = colour[i] == 1
			short[got[i]] = set[i]
		}
		for _, op := range []func([][]int, []bool) []bool{label.EX, label.EG, func(l [][]int, a []bool) []bool { return label.EU(l, label.Not(a), a) }} {
			big, little := op(next, set), op(small, short)
			for i := range n {
				if big[i] != little[got[i]] {
					t.Fatal(next, colour, got, small)
				}
			}
		}
	}
}
