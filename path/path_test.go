package path_test

import (
	"math"
	"math/rand"
	"slices"
	"testing"

	"warder/label"
	"warder/path"
)

// set has the places of a word: x those that are in it.
func set(s string) []bool {
	var l []bool
	for _, r := range s {
		l = append(l, r == 'x')
	}
	return l
}

func TestShortest(t *testing.T) {
	line := [][]int{{1, 2}, {2}, {2}}
	wide := [][]int{{1, 2, 3}, {4}, {5, 4}, {5}, {0}, {0}}
	for i, x := range []struct {
		next        [][]int
		from        int
		through, to string
		want        []int
		ok          bool
	}{
		{line, 0, "xxx", "..x", []int{1}, true}, {line, 0, "xxx", ".x.", []int{0}, true}, {line, 0, "xxx", "x..", nil, true}, {line, 0, "...", "x..", nil, true}, {line, 0, "...", "..x", nil, false}, {line, 0, ".xx", "..x", nil, false}, {line, 0, "x..", "..x", []int{1}, true}, {line, 1, "xxx", "x..", nil, false}, {line, 2, "xxx", ".x.", nil, false}, {line, 0, "xxx", "...", nil, false},
		{wide, 0, "xxxxxx", "....xx", []int{0, 0}, true}, {wide, 0, "xxxxxx", ".....x", []int{1, 0}, true}, {wide, 0, "x.xxxx", "....x.", []int{1, 1}, true}, {wide, 0, "x..xxx", "....xx", []int{2, 0}, true}, {wide, 0, "xx..xx", ".....x", nil, false}, {wide, 4, "xxxxxx", "..x...", []int{0, 1}, true}, {wide, 0, "xxxxxx", "...xxx", []int{2}, true},
		{wide, -1, "xxxxxx", "xxxxxx", nil, false}, {wide, 6, "xxxxxx", "xxxxxx", nil, false}, {wide, math.MaxInt, "xxxxxx", "xxxxxx", nil, false}, {nil, 0, "x", "x", nil, false},
		// edges to no place are not gone, but count
		{[][]int{{9, -1, 1}, {math.MaxInt, 0}}, 0, "xx", ".x", []int{2}, true}, {[][]int{{9, -1, 1}, {math.MaxInt, 0}}, 1, "xx", "x.", []int{1}, true}, {[][]int{{9, -1}, nil}, 0, "xx", ".x", nil, false},
		// sets that are too short, or too long
		{line, 0, "x", "..xxx", []int{1}, true}, {line, 0, "", "..x", nil, false}, {line, 0, "xxx", "", nil, false}, {line, 0, "xxxxx", "...xx", nil, false},
		// the last place needs not be in through; of edges to one place the first one
		{[][]int{{1, 1}, {2, 2}, nil}, 0, "xx.", "..x", []int{0, 0}, true}, {[][]int{{0, 1}, {2}, {2}}, 0, "xx.", "..x", []int{1, 0}, true},
	} {
		way, ok := path.Shortest(x.next, x.from, set(x.through), set(x.to))
		if !slices.Equal(way, x.want) || ok != x.ok {
			t.Error(i, way, ok)
		}
	}
}

func TestLasso(t *testing.T) {
	for i, x := range []struct {
		next [][]int
		from int
		in   string
		want []int
		at   int
		ok   bool
	}{
		{[][]int{{1}, {2}, {1}}, 0, "xxx", []int{0, 0, 0}, 1, true}, {[][]int{{1}, {2}, {1}}, 1, "xxx", []int{0, 0}, 0, true}, {[][]int{{0}}, 0, "x", []int{0}, 0, true}, {[][]int{{0}}, 0, ".", nil, 0, false}, {[][]int{{1}, {2}, {1}}, 0, "xx.", nil, 0, false}, {[][]int{{1}, {2}, {1}}, 0, ".xx", nil, 0, false},
		{[][]int{{1, 2}, nil, {2, 0}}, 0, "xxx", []int{1, 0}, 1, true}, {[][]int{{1, 2}, {0}, {2}}, 0, "xxx", []int{0, 0}, 0, true}, {[][]int{{1, 2}, {0}, {2}}, 0, "x.x", []int{1, 0}, 1, true}, {[][]int{{9, -1, 0}}, 0, "x", []int{2}, 0, true}, {[][]int{{9, math.MinInt}}, 0, "x", nil, 0, false},
		{[][]int{{1}, {2}, {3}, {4}, {2}}, 0, "xxxxx", []int{0, 0, 0, 0, 0}, 2, true}, {[][]int{{1}, {0}}, -1, "xx", nil, 0, false}, {[][]int{{1}, {0}}, 2, "xx", nil, 0, false}, {[][]int{{1}, {0}}, math.MinInt, "xx", nil, 0, false}, {nil, 0, "x", nil, 0, false}, {[][]int{{1}, {0}}, 0, "x", nil, 0, false}, {[][]int{{1}, {0}}, 0, "xxx", []int{0, 0}, 0, true},
	} {
		way, at, ok := path.Lasso(x.next, x.from, set(x.in))
		if !slices.Equal(way, x.want) || at != x.at || ok != x.ok {
			t.Error(i, way, at, ok)
		}
	}
}

func TestEnds(t *testing.T) {
	next := [][]int{{1, 2}, {0}, {7, -1, 2}}
	for i, x := range []struct {
		from int
		way  []int
		to   int
		ok   bool
	}{
		{0, nil, 0, true}, {2, nil, 2, true}, {0, []int{0}, 1, true}, {0, []int{0, 0, 1, 2}, 2, true}, {0, []int{2}, 0, false}, {0, []int{-1}, 0, false}, {2, []int{0}, 0, false}, {2, []int{1}, 0, false}, {2, []int{2, 0}, 0, false}, {1, []int{0, 5}, 0, false}, {0, []int{math.MaxInt}, 0, false}, {0, []int{math.MinInt}, 0, false},
		{-1, nil, 0, false}, {3, nil, 0, false}, {math.MaxInt, nil, 0, false},
	} {
		if to, ok := path.Ends(next, x.from, x.way); to != x.to || ok != x.ok {
			t.Error(i, to, ok)
		}
	}
	if to, ok := path.Ends(nil, 0, nil); to != 0 || ok {
		t.Error(to, ok)
	}
}

func TestWaysLeadWhereTheyShould(t *testing.T) {
	rnd := rand.New(rand.NewSource(37))
	for range 4000 {
		n := 1 + rnd.Intn(6)
		next := make([][]int, n)
		a, b := make([]bool, n), make([]bool, n)
		for i := range next {
			for range rnd.Intn(4) {
				next[i] = append(next[i], rnd.Intn(n+2)-1)
			}
			a[i], b[i] = rnd.Intn(4) > 0, rnd.Intn(4) == 0
		}
		from := rnd.Intn(n)
		way, ok := path.Shortest(next, from, a, b)
		if ok != label.EU(next, a, b)[from] {
			t.Fatal(next, from, a, b)
		}
		if ok {
			if to, good := path.Ends(next, from, way); !good || !b[to] {
				t.Fatal(next, from, a, b, way)
			}
			for k := range way {
				if at, _ := path.Ends(next, from, way[:k]); !a[at] || b[at] {
					t.Fatal(next, from, a, b, way)
				}
			}
			if least := least(next, from, a, b, len(way)); !slices.Equal(least, way) {
				t.Fatal(next, from, a, b, way, least)
			}
		}
		way, at, ok := path.Lasso(next, from, a)
		if ok != label.EG(next, a)[from] {
			t.Fatal(next, from, a)
		}
		if ok {
			first, _ := path.Ends(next, from, way[:at])
			last, good := path.Ends(next, from, way)
			if !good || first != last || at >= len(way) {
				t.Fatal(next, from, a, way, at)
			}
			seen := map[int]bool{}
			for k := range way {
				p, _ := path.Ends(next, from, way[:k])
				if !a[p] || seen[p] {
					t.Fatal(next, from, a, way, at)
				}
				seen[p] = true
				for e := range way[k] {
					if q := next[p][e]; q >= 0 && q < n && label.EG(next, a)[q] {
						t.Fatal("not the first edge", next, from, a, way)
					}
				}
			}
		}
	}
}

// least is the first way of at most so many steps, if they are gone through in order.
func least(next [][]int, from int, a, b []bool, most int) []int {
	for steps := range most + 1 {
		way := make([]int, steps)
		var try func(at, k int) bool
		try = func(at, k int) bool {
			if k == steps {
				return b[at]
			}
			if !a[at] {
				return false
			}
			for e, i := range next[at] {
				way[k] = e
				if i >= 0 && i < len(next) && try(i, k+1) {
					return true
				}
			}
			return false
		}
		if try(from, 0) {
			return way
		}
	}
	return nil
}
