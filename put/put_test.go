package put_test

import (
	"math"
	"math/rand"
	"slices"
	"testing"

	"warder/api"
	"warder/halve"
	"warder/put"
	"warder/zone"
)

func class(attrs, place int) api.Class { return api.Class{Attrs: attrs, Const: place} }

func zoneOf(classes []api.Class, gaps ...int) api.Zone {
	return api.Zone{Classes: classes, Gaps: gaps}
}

func texts(l []api.Zone) []string {
	var out []string
	for _, z := range l {
		out = append(out, zone.Text(z))
	}
	return out
}

func TestPut(t *testing.T) {
	one := zoneOf([]api.Class{class(2, -1)})
	two := zoneOf([]api.Class{class(2, -1), class(4, 0)}, 2)
	for i, x := range []struct {
		z    api.Zone
		a, r int
		want []string
	}{
		{one, 0, 1, []string{"1:-1 0 2:-1", "3:-1", "2:-1 0 1:-1"}},
		{one, 0, 2, []string{"1:-1 1 2:-1", "1:-1 0 2:-1", "3:-1", "2:-1 0 1:-1", "2:-1 1 1:-1"}},
		{two, 0, 1, []string{"1:-1 0 2:-1 0 4:0", "3:-1 0 4:0", "2:-1 0 1:-1 0 4:0", "2:-1 0 5:0", "2:-1 0 4:0 0 1:-1"}},
		{two, 3, 2, []string{"8:-1 1 2:-1 1 4:0", "8:-1 0 2:-1 1 4:0", "10:-1 1 4:0", "2:-1 0 8:-1 1 4:0", "2:-1 1 8:-1 0 4:0", "2:-1 1 12:0", "2:-1 1 4:0 0 8:-1", "2:-1 1 4:0 1 8:-1"}},
		{zoneOf([]api.Class{class(2, -1), class(4, -1)}, 9), 0, 2, []string{"1:-1 1 2:-1 1 4:-1", "1:-1 0 2:-1 1 4:-1", "3:-1 1 4:-1", "2:-1 0 1:-1 1 4:-1", "2:-1 1 1:-1 0 4:-1", "2:-1 1 1:-1 1 4:-1", "2:-1 1 5:-1", "2:-1 1 4:-1 0 1:-1", "2:-1 1 4:-1 1 1:-1"}},
		{zoneOf([]api.Class{class(2, -1), class(4, -1)}, 0), 0, 2, []string{"1:-1 1 2:-1 0 4:-1", "1:-1 0 2:-1 0 4:-1", "3:-1 0 4:-1", "2:-1 0 5:-1", "2:-1 0 4:-1 0 1:-1", "2:-1 0 4:-1 1 1:-1"}},
		{api.Zone{}, 0, 1, []string{"1:-1"}}, {api.Zone{}, 30, 3, []string{"1073741824:-1"}},
		{one, 0, 0, nil}, {one, 0, -1, nil}, {one, 0, math.MinInt, nil}, {one, 1, 2, nil}, {two, 2, 2, nil}, {one, -1, 2, nil}, {one, 31, 2, nil}, {one, math.MaxInt, 2, nil}, {api.Zone{}, 0, 0, nil}, {api.Zone{}, -1, 1, nil}, {api.Zone{}, 31, 1, nil},
		{zoneOf([]api.Class{class(2, -1)}, 1), 0, 2, nil}, {zoneOf([]api.Class{class(2, -1), class(4, -1)}), 0, 2, nil}, {zoneOf(nil, 1), 0, 2, nil}, {zoneOf([]api.Class{class(2, -1), class(4, -1)}, 1, 1), 0, 2, nil},
	} {
		kept := zone.Text(x.z)
		l := put.Put(x.z, x.a, x.r)
		if !slices.Equal(texts(l), x.want) {
			t.Error(i, texts(l))
		}
		if zone.Text(x.z) != kept {
			t.Error(i, "what is handed in is changed")
		}
		if !(x.a >= 0 && x.a < 31) || x.want == nil && x.r >= 1 && len(x.z.Gaps) == max(len(x.z.Classes)-1, 0) {
			continue
		}
		if n := put.Count(x.z, x.r); n != len(x.want) {
			t.Error(i, "count", n)
		}
	}
}

func TestNewMemory(t *testing.T) {
	z := zoneOf([]api.Class{class(2, -1), class(4, -1)}, 3)
	l := put.Put(z, 0, 3)
	before := texts(l)
	for i := range l {
		for k := range l[i].Classes {
			l[i].Classes[k].Attrs = 64
		}
		for k := range l[i].Gaps {
			l[i].Gaps[k] = 64
		}
		for k := i + 1; k < len(l); k++ {
			if zone.Text(l[k]) != before[k] {
				t.Fatal("zones share memory", i, k)
			}
		}
	}
	if zone.Text(z) != "2:-1 3 4:-1" {
		t.Error("shared")
	}
}

func TestCount(t *testing.T) {
	z := zoneOf([]api.Class{class(2, -1), class(4, 0), class(8, -1)}, 2, 15)
	for r, want := range map[int]int{-1: 0, 0: 0, 1: 2 + 3 + 2, 2: 4 + 3 + 2 + 3, 3: 8 + 3 + 2 + 7, 4: 16 + 3 + 2 + 15, 5: 32 + 3 + 2 + 15} {
		if n := put.Count(z, r); n != want {
			t.Error(r, n, want)
		}
	}
	for _, z := range []api.Zone{zoneOf(nil, 1), zoneOf([]api.Class{class(1, -1)}, 1), zoneOf([]api.Class{class(1, -1), class(2, -1)})} {
		if n := put.Count(z, 3); n != 0 {
			t.Error(z, n)
		}
	}
	if put.Count(api.Zone{}, 0) != 0 || put.Count(api.Zone{}, 1) != 1 || put.Count(api.Zone{}, 5) != 1 {
		t.Error("no classes")
	}
}

func TestJustTheZonesOfAllNumbers(t *testing.T) {
	rnd := rand.New(rand.NewSource(24))
	for range 1500 {
		vals := make([]int64, rnd.Intn(4))
		for i := range vals {
			vals[i] = int64(rnd.Intn(24))
		}
		consts := []int64{3, 5, 11, 20}[:rnd.Intn(5)]
		r := 1 + rnd.Intn(4)
		z := zone.Of(vals, consts, r)
		want := map[string]bool{}
		for v := int64(-30); v < 60; v++ {
			want[zone.Text(zone.Of(append(slices.Clone(vals), v), consts, r-1))] = true
		}
		l := put.Put(z, len(vals), r)
		got := map[string]bool{}
		for _, x := range l {
			got[zone.Text(x)] = true
			if !want[zone.Text(x)] {
				t.Fatal(vals, consts, r, "no number has", zone.Text(x))
			}
			for _, g := range x.Gaps {
				if g > halve.Cap(r-1) {
					t.Fatal("not clipped", x)
				}
			}
		}
		if len(got) != len(want) || len(l) != len(got) || put.Count(z, r) != len(l) {
			t.Fatal(vals, consts, r, len(got), len(want), len(l), put.Count(z, r))
		}
	}
}
