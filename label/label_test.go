package label_test

import (
	"math"
	"math/rand"
	"slices"
	"testing"

	"warder/label"
)

// set has the places of a word: x those that are in it.
func set(s string) []bool {
	var l []bool
	for _, r := range s {
		l = append(l, r == 'x')
	}
	return l
}

func TestExample(t *testing.T) {
	next := [][]int{{1}, {2}, {2}}
	if g := label.EG(next, set(".xx")); !slices.Equal(g, set(".xx")) {
		t.Error(g)
	}
}

func TestWays(t *testing.T) {
	for i, x := range []struct {
		next       [][]int
		a, b       string
		ex, eu, eg string
	}{
		{[][]int{{1}, {2}, {2}}, "xxx", "..x", "xxx", "xxx", "xxx"}, {[][]int{{1}, {2}, {2}}, "x.x", "..x", ".xx", "..x", "..x"}, {[][]int{{1}, {2}, {2}}, "xx.", "..x", "x..", "xxx", "..."}, {[][]int{{1}, {2}, {2}}, "...", "x..", "...", "x..", "..."}, {[][]int{{1}, {2}, {2}}, "xxx", "...", "xxx", "...", "xxx"},
		// places that nothing follows
		{[][]int{{1}, nil}, "xx", ".x", "x.", "xx", ".."}, {[][]int{nil, {1}}, "xx", "x.", ".x", "x.", ".x"}, {[][]int{{0, 1}, nil}, "xx", ".x", "x.", "xx", "x."},
		// numbers that are no place
		{[][]int{{7, -1}, {math.MaxInt, 0}, {math.MinInt, 3}}, "xxx", "x..", ".x.", "xx.", "..."}, {[][]int{{0, 9}, {9}}, "xx", "..", "x.", "..", "x."},
		// the same edge more than once
		{[][]int{{1, 1, 1}, {0, 0}, {1, 1}}, "xx.", "...", "xxx", "...", "xx."}, {[][]int{{1, 1}, nil}, "xx", "..", "x.", "..", ".."},
		// sets that are too short, or too long
		{[][]int{{1}, {0}}, "x", "", ".x", "..", ".."}, {[][]int{{1}, {0}}, "xxxx", ".xxx", "xx", "xx", "xx"}, {[][]int{{1}, {0}}, "", "x", "..", "x.", ".."}, {nil, "xx", "xx", "", "", ""},
		{[][]int{{1, 2}, {3}, {2}, nil}, "xx.x", "..x.", "xx..", "x.x.", "...."}, {[][]int{{1, 2}, {3}, {2}, nil}, "xxxx", "...x", "xxx.", "xx.x", "x.x."},
	} {
		a, b := set(x.a), set(x.b)
		if g := label.EX(x.next, a); !slices.Equal(g, set(x.ex)) {
			t.Error(i, "EX", g)
		}
		if g := label.EU(x.next, a, b); !slices.Equal(g, set(x.eu)) {
			t.Error(i, "EU", g)
		}
		if g := label.EG(x.next, a); !slices.Equal(g, set(x.eg)) {
			t.Error(i, "EG", g)
		}
		if !slices.Equal(a, set(x.a)) || !slices.Equal(b, set(x.b)) {
			t.Error(i, "what is handed in is changed")
		}
	}
}

func TestNotAndAnd(t *testing.T) {
	a := set("x.x")
	if g := label.Not(a); !slices.Equal(g, set(".x.")) || !slices.Equal(a, set("x.x")) {
		t.Error(g)
	}
	for _, x := range [][3]string{{"x.x.", "xx..", "x..."}, {"xx", "xxx", "xx."}, {"xxx", ".x", ".x."}, {"", "xx", ".."}, {"x", "", "."}, {"", "", ""}} {
		if g := label.And(set(x[0]), set(x[1])); !slices.Equal(g, set(x[2])) {
			t.Error(x, g)
		}
	}
	if len(label.Not(nil)) != 0 || len(label.And(nil, nil)) != 0 {
		t.Error("of nothing")
	}
	b := set("xxx")
	g := label.And(b, b)
	g[0] = false
	if !b[0] {
		t.Error("shared")
	}
}

func TestFixedSets(t *testing.T) {
	rnd := rand.New(rand.NewSource(33))
	for range 4000 {
		n := rnd.Intn(8)
		next := make([][]int, n)
		a, b := make([]bool, n), make([]bool, n)
		for i := range next {
			for range rnd.Intn(3) {
				next[i] = append(next[i], rnd.Intn(n+2)-1)
			}
			a[i], b[i] = rnd.Intn(3) > 0, rnd.Intn(4) == 0
		}
		follows := func(i int, s []bool) bool {
			return slices.ContainsFunc(next[i], func(k int) bool { return k >= 0 && k < n && s[k] })
		}
		ex, eu, eg := make([]bool, n), slices.Clone(b), slices.Clone(a)
		for range n + 1 {
			for i := range n {
				ex[i] = follows(i, a)
				eu[i] = eu[i] || a[i] && follows(i, eu)
				eg[i] = eg[i] && follows(i, eg)
			}
		}
		if !slices.Equal(ex, label.EX(next, a)) || !slices.Equal(eu, label.EU(next, a, b)) || !slices.Equal(eg, label.EG(next, a)) {
			t.Fatal(next, a, b)
		}
	}
}
