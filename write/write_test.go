package write_test

import (
	"math"
	"math/rand"
	"slices"
	"testing"

	"warder/api"
	"warder/drop"
	"warder/put"
	"warder/write"
	"warder/zone"
)

func class(attrs, place int) api.Class { return api.Class{Attrs: attrs, Const: place} }

func zoneOf(classes []api.Class, gaps ...int) api.Zone {
	return api.Zone{Classes: classes, Gaps: gaps}
}

func texts(l []api.Zone) []string {
	var out []string
	for _, z := range l {
		out = append(out, zone.Text(z))
	}
	return out
}

func TestExample(t *testing.T) {
	if g := texts(write.Write(zoneOf([]api.Class{class(3, -1)}), []int{0}, 1)); !slices.Equal(g, []string{"1:-1 0 2:-1", "3:-1", "2:-1 0 1:-1"}) {
		t.Error(g)
	}
}

func TestEdges(t *testing.T) {
	z := zoneOf([]api.Class{class(1, -1), class(2, -1)}, 3)
	odd := zoneOf([]api.Class{class(1, -1), class(2, -1)})
	for i, x := range []struct {
		z    api.Zone
		l    []int
		r    int
		want []string
	}{
		{z, nil, 2, []string{"1:-1 3 2:-1"}}, {z, nil, 0, []string{"1:-1 3 2:-1"}}, {z, nil, -4, []string{"1:-1 3 2:-1"}}, {odd, nil, 1, []string{"1:-1 | 2:-1"}}, {z, []int{}, math.MinInt, []string{"1:-1 3 2:-1"}},
		{z, []int{0}, 0, nil}, {z, []int{0, 1}, 1, nil}, {z, []int{0}, -1, nil}, {z, []int{0}, math.MinInt, nil}, {z, []int{31}, 3, nil}, {z, []int{-1}, 3, nil}, {z, []int{0, 31}, 3, nil}, {odd, []int{0}, 3, nil}, {zoneOf(nil, 4), []int{0}, 3, nil},
		{z, []int{0}, 1, []string{"1:-1 0 2:-1", "3:-1", "2:-1 0 1:-1"}}, {z, []int{0, 1}, 2, []string{"2:-1 0 1:-1", "3:-1", "1:-1 0 2:-1"}}, {zoneOf([]api.Class{class(1, -1)}), []int{0}, 3, []string{"1:-1"}}, {api.Zone{}, []int{2}, 1, []string{"4:-1"}},
		{z, []int{0, 0}, 2, []string{"1:-1 0 2:-1", "3:-1", "2:-1 0 1:-1"}},
	} {
		if g := texts(write.Write(x.z, x.l, x.r)); !slices.Equal(g, x.want) {
			t.Error(i, g)
		}
	}
}

func TestUniqueAndLess(t *testing.T) {
	a := zoneOf([]api.Class{class(1, -1), class(2, -1)}, 3)
	b := zoneOf([]api.Class{class(1, -1), class(2, -1)}, 10)
	c := zoneOf([]api.Class{class(1, -1)})
	l := []api.Zone{b, a, b, c, a, a, c}
	g := write.Unique(l)
	if !slices.Equal(texts(g), []string{"1:-1 10 2:-1", "1:-1 3 2:-1", "1:-1"}) {
		t.Error(texts(g))
	}
	g[0].Classes[0].Attrs, g[0].Gaps[0] = 64, 64
	if l[0].Classes[0].Attrs != 1 || l[0].Gaps[0] != 10 || b.Gaps[0] != 10 {
		t.Error("shared")
	}
	if len(write.Unique(nil)) != 0 || len(write.Unique([]api.Zone{{}, {}})) != 1 {
		t.Error("of nothing")
	}
	// byte by byte: 10 ahead of 3
	if !write.Less(b, a) || write.Less(a, b) || write.Less(a, a) || !write.Less(c, a) || write.Less(a, c) || !write.Less(api.Zone{}, c) {
		t.Error("less")
	}
}

func TestNewMemory(t *testing.T) {
	z := zoneOf([]api.Class{class(1, -1), class(2, -1)}, 3)
	for _, l := range [][]int{nil, {0}, {1, 0}} {
		g := write.Write(z, l, 3)
		before := texts(g)
		for i := range g {
			for k := range g[i].Classes {
				g[i].Classes[k].Attrs = 64
			}
			for k := range g[i].Gaps {
				g[i].Gaps[k] = 64
			}
			for k := i + 1; k < len(g); k++ {
				if zone.Text(g[k]) != before[k] {
					t.Fatal("zones share memory")
				}
			}
		}
		if zone.Text(z) != "1:-1 3 2:-1" {
			t.Fatal("shared")
		}
	}
}

func TestAsTheWordsSay(t *testing.T) {
	rnd := rand.New(rand.NewSource(25))
	for range 400 {
		vals := make([]int64, 1+rnd.Intn(3))
		for i := range vals {
			vals[i] = int64(rnd.Intn(24))
		}
		consts := []int64{3, 5, 11}[:rnd.Intn(4)]
		l := rnd.Perm(len(vals))[:1+rnd.Intn(min(2, len(vals)))]
		r := len(l) + rnd.Intn(4-len(l))
		z := zone.Of(vals, consts, r)
		// one behind the other, and each one once, where it comes first
		row := []api.Zone{z}
		for i, a := range l {
			var next []api.Zone
			for _, x := range row {
				for _, y := range put.Put(drop.Drop(x, a, r-i), a, r-i) {
					if !slices.ContainsFunc(next, func(o api.Zone) bool { return zone.Same(o, y) }) {
						next = append(next, y)
					}
				}
			}
			row = next
		}
		got := write.Write(z, l, r)
		if !slices.Equal(texts(got), texts(row)) {
			t.Fatal(vals, consts, l, r)
		}
		// the zones of all numbers that may be written
		want := map[string]bool{}
		var fill func(vals []int64, l []int)
		fill = func(vals []int64, rest []int) {
			if len(rest) == 0 {
				want[zone.Text(zone.Of(vals, consts, r-len(l)))] = true
				return
			}
			for v := int64(-12); v < 40; v++ {
				next := slices.Clone(vals)
				next[rest[0]] = v
				fill(next, rest[1:])
			}
		}
		fill(vals, l)
		for _, x := range got {
			if !want[zone.Text(x)] {
				t.Fatal(vals, consts, l, r, "no numbers have", zone.Text(x))
			}
		}
		if len(got) != len(want) {
			t.Fatal(vals, consts, l, r, len(got), len(want))
		}
	}
}
