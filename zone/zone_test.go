package zone_test

import (
	"cmp"
	"math"
	"math/rand"
	"slices"
	"testing"

	"warder/api"
	"warder/halve"
	"warder/zone"
)

func class(attrs, place int) api.Class { return api.Class{Attrs: attrs, Const: place} }

func zoneOf(classes []api.Class, gaps ...int) api.Zone {
	return api.Zone{Classes: classes, Gaps: gaps}
}

func attr(n int) api.Val { return api.Val{Attr: n} }

func number(n int64) api.Val { return api.Val{Attr: -1, Num: n} }

func TestOf(t *testing.T) {
	for i, x := range []struct {
		vals, consts []int64
		r            int
		want         api.Zone
	}{
		{[]int64{5, 9}, []int64{5, 7}, 2, zoneOf([]api.Class{class(1, 0), class(0, 1), class(2, -1)}, 1, 1)},
		{nil, nil, 3, api.Zone{}}, {[]int64{4}, nil, 3, zoneOf([]api.Class{class(1, -1)})}, {nil, []int64{4}, 3, zoneOf([]api.Class{class(0, 0)})},
		{[]int64{7, 7, 3, 7}, nil, 1, zoneOf([]api.Class{class(4, -1), class(11, -1)}, 1)}, {[]int64{7, 7, 3, 7}, nil, 0, zoneOf([]api.Class{class(4, -1), class(11, -1)}, 0)}, {[]int64{7, 7, 3, 7}, nil, -5, zoneOf([]api.Class{class(4, -1), class(11, -1)}, 0)}, {[]int64{7, 7, 3, 7}, nil, 9, zoneOf([]api.Class{class(4, -1), class(11, -1)}, 3)},
		{[]int64{math.MinInt64, math.MaxInt64}, []int64{0}, 4, zoneOf([]api.Class{class(1, -1), class(0, 0), class(2, -1)}, 15, 15)}, {[]int64{math.MinInt64, math.MaxInt64}, nil, 30, zoneOf([]api.Class{class(1, -1), class(2, -1)}, 1<<20-1)},
		// other lists of constants: as if they were sorted
		{[]int64{5, 9}, []int64{7, 5, 7}, 2, zoneOf([]api.Class{class(1, 0), class(0, 1), class(2, -1)}, 1, 1)}, {[]int64{8}, []int64{9, 9}, 2, zoneOf([]api.Class{class(1, -1), class(0, 0)}, 0)},
		{[]int64{1, 2, 3}, []int64{2}, 2, zoneOf([]api.Class{class(1, -1), class(2, 0), class(4, -1)}, 0, 0)},
	} {
		if g := zone.Of(x.vals, x.consts, x.r); !zone.Same(g, x.want) {
			t.Error(i, g)
		}
	}
	many := make([]int64, 40)
	for i := range many {
		many[i] = 6
	}
	many[31], many[32] = 1, 99
	if g := zone.Of(many, nil, 2); !zone.Same(g, zoneOf([]api.Class{class(math.MaxInt32, -1)})) {
		t.Error("more than 31 attributes", g)
	}
	in := []int64{9, 1, 5}
	zone.Of(in, in, 2)
	if !slices.Equal(in, []int64{9, 1, 5}) {
		t.Error("what is handed in is changed")
	}
}

// all zones of numbers from a wide window, by their texts
func zones(n int, consts []int64, r int) map[string]bool {
	all := map[string]bool{}
	vals := make([]int64, n)
	var fill func(i int)
	fill = func(i int) {
		if i == n {
			all[zone.Text(zone.Of(vals, consts, r))] = true
			return
		}
		for v := int64(-12); v <= 24; v++ {
			vals[i] = v
			fill(i + 1)
		}
	}
	fill(0)
	return all
}

func TestCheckOfAnyZone(t *testing.T) {
	for _, consts := range [][]int64{nil, {0}, {0, 1}, {0, 3}, {0, 4}, {0, 12}} {
		for r := range 3 {
			for n := range 3 {
				all := zones(n, consts, r)
				found := map[string]bool{}
				ask := func(z api.Zone) {
					text := zone.Text(z)
					ok := zone.Check(z, n, consts, r)
					if ok != all[text] {
						t.Fatal(text, n, consts, r, ok)
					}
					if ok {
						found[text] = true
						vals, ok := zone.Sample(z, n, consts, r)
						if !ok || len(vals) != n || !zone.Same(zone.Of(vals, consts, r), z) {
							t.Fatal("sample", text, consts, r, vals)
						}
					} else if vals, ok := zone.Sample(z, n, consts, r); ok || len(vals) != 0 {
						t.Fatal("sample", text, consts, r, vals)
					}
				}
				enumerate(4, ask)
				if len(found) != len(all) {
					t.Error("not all zones came", n, consts, r, len(found), len(all))
				}
			}
		}
	}
}

// enumerate tells zones of at most so many classes: with any gaps where the attributes, and the constants, stand once each at most.
func enumerate(most int, tell func(z api.Zone)) {
	var gaps func(z api.Zone, n int)
	gaps = func(z api.Zone, n int) {
		if n == 0 {
			tell(z)
			return
		}
		for g := -1; g < 5; g++ {
			gaps(api.Zone{Classes: z.Classes, Gaps: append(slices.Clone(z.Gaps), g)}, n-1)
		}
	}
	var classes func(z api.Zone, attrs, next int)
	classes = func(z api.Zone, attrs, next int) {
		gaps(z, max(len(z.Classes)-1, 0))
		if len(z.Classes) == most {
			return
		}
		for a := range 4 {
			for c := -1; c <= next; c++ {
				if a&attrs == 0 && (c == -1 || c == next) && (a != 0 || c >= 0) {
					n := next
					if c == next {
						n++
					}
					classes(api.Zone{Classes: append(slices.Clone(z.Classes), class(a, c))}, attrs|a, n)
				}
			}
		}
	}
	classes(api.Zone{}, 0, 0)
}

func TestCheckOfOddZones(t *testing.T) {
	consts := []int64{5, 7}
	good := func() api.Zone { return zoneOf([]api.Class{class(1, 0), class(0, 1), class(2, -1)}, 1, 1) }
	if !zone.Check(good(), 2, consts, 2) || !zone.Check(good(), 2, []int64{7, 5, 7}, 2) || !zone.Check(api.Zone{}, 0, nil, 2) {
		t.Fatal("may be")
	}
	for i, change := range []func(z *api.Zone){
		func(z *api.Zone) { z.Gaps = z.Gaps[:1] }, func(z *api.Zone) { z.Gaps = append(z.Gaps, 1) }, func(z *api.Zone) { z.Gaps = nil }, func(z *api.Zone) { z.Classes, z.Gaps = nil, nil }, func(z *api.Zone) { z.Classes = nil },
		func(z *api.Zone) { z.Classes[0].Attrs = 0 }, func(z *api.Zone) { z.Classes[0].Attrs = 3 }, func(z *api.Zone) { z.Classes[1].Attrs = 4 }, func(z *api.Zone) { z.Classes[2].Attrs = 0 }, func(z *api.Zone) { z.Classes[0].Attrs = -1 }, func(z *api.Zone) { z.Classes[1].Attrs = 1 },
		func(z *api.Zone) { z.Classes[0].Const, z.Classes[1].Const = 1, 0 }, func(z *api.Zone) { z.Classes[0].Const = -1 }, func(z *api.Zone) { z.Classes[2].Const = 1 }, func(z *api.Zone) { z.Classes[2].Const = 2 }, func(z *api.Zone) { z.Classes[2].Const = 0 }, func(z *api.Zone) { z.Classes[1].Const = math.MaxInt },
		func(z *api.Zone) { z.Gaps[0] = 2 }, func(z *api.Zone) { z.Gaps[0] = 0 }, func(z *api.Zone) { z.Gaps[1] = 4 }, func(z *api.Zone) { z.Gaps[1] = -1 }, func(z *api.Zone) { z.Gaps[1] = math.MaxInt },
	} {
		z := good()
		change(&z)
		if zone.Check(z, 2, consts, 2) {
			t.Error(i, z)
		}
		if vals, ok := zone.Sample(z, 2, consts, 2); ok || len(vals) != 0 {
			t.Error(i, vals)
		}
	}
	for _, n := range []int{math.MinInt, -1, 0, 1, 3, 31, 32, math.MaxInt} {
		if zone.Check(good(), n, consts, 2) {
			t.Error(n)
		}
	}
	for _, n := range []int{-1, 32, math.MaxInt, math.MinInt} {
		if zone.Check(api.Zone{}, n, nil, 2) {
			t.Error(n)
		}
	}
	if zone.Check(good(), 2, nil, 2) || zone.Check(good(), 2, []int64{5}, 2) || zone.Check(good(), 2, []int64{5, 7, 8}, 2) || zone.Check(good(), 2, []int64{5, 8}, 2) {
		t.Error("other constants")
	}
	if zone.Check(zoneOf([]api.Class{class(1, -1), class(0, -1)}, 1), 1, nil, 2) || zone.Check(zoneOf([]api.Class{class(0, 0), class(0, -1), class(1, -1)}, 1, 1), 1, []int64{5}, 2) {
		t.Error("an empty class")
	}
	if zone.Check(zoneOf([]api.Class{class(math.MaxInt32, -1)}), 32, nil, 2) {
		t.Error("more than 31 attributes")
	}
	if !zone.Check(zoneOf([]api.Class{class(math.MaxInt32, -1)}), 31, nil, 2) {
		t.Error("31 attributes")
	}
	// room beyond 63 bits
	wide := []int64{math.MinInt64, math.MaxInt64}
	if z := zoneOf([]api.Class{class(0, 0), class(1, -1), class(0, 1)}, 3, 2); !zone.Check(z, 1, wide, 2) || zone.Check(z, 1, wide, 3) {
		t.Error("wide")
	}
}

func TestPlaceAndCompare(t *testing.T) {
	consts := []int64{5, 7}
	z := zoneOf([]api.Class{class(1, 0), class(0, 1), class(6, -1), class(3, 1)}, 1, 1, 0)
	for v, want := range map[api.Val]int{attr(0): 0, attr(1): 2, attr(2): 2, attr(3): -1, attr(-2): -1, attr(31): -1, attr(64): -1, number(5): 0, number(7): 1, number(6): -1, {Attr: 1, Num: 5}: 2} {
		if g := zone.Place(z, consts, v); g != want {
			t.Error(v, g)
		}
		if g := zone.Place(z, []int64{7, 7, 5}, v); g != want {
			t.Error("constants that do not rise", v, g)
		}
	}
	if zone.Place(z, nil, number(5)) != -1 || zone.Place(api.Zone{}, consts, number(5)) != -1 || zone.Place(api.Zone{}, nil, attr(0)) != -1 {
		t.Error("of nothing")
	}
	for _, x := range []struct {
		a, b api.Val
		want int
	}{
		{attr(0), number(5), 0}, {attr(0), number(7), -1}, {number(7), attr(0), 1}, {attr(1), attr(2), 0}, {attr(2), number(7), 1}, {number(5), attr(1), -1}, {attr(3), attr(0), 0}, {attr(0), attr(3), 0}, {attr(1), number(6), 0}, {number(6), number(5), 0},
	} {
		if g := zone.Compare(z, consts, x.a, x.b); g != x.want {
			t.Error(x, g)
		}
	}
}

func TestSample(t *testing.T) {
	for i, x := range []struct {
		z      api.Zone
		n      int
		consts []int64
		r      int
		want   []int64
		ok     bool
	}{
		{api.Zone{}, 0, nil, 2, nil, true}, {zoneOf([]api.Class{class(2, -1), class(1, -1)}, 3), 2, nil, 2, []int64{4, 0}, true}, {zoneOf([]api.Class{class(2, -1), class(5, -1)}, 0), 3, nil, 2, []int64{1, 0, 1}, true},
		{zoneOf([]api.Class{class(2, -1), class(1, -1), class(0, 0)}, 1, 2), 2, []int64{10}, 2, []int64{7, 5}, true}, {zoneOf([]api.Class{class(0, 0), class(2, -1), class(1, -1)}, 1, 2), 2, []int64{10}, 2, []int64{15, 12}, true}, {zoneOf([]api.Class{class(3, 0)}), 2, []int64{10}, 2, []int64{10, 10}, true},
		// between two constants the last gap that is the cap has all that is left
		{zoneOf([]api.Class{class(0, 0), class(1, -1), class(2, -1), class(0, 1)}, 3, 3, 3), 2, []int64{0, 100}, 2, []int64{4, 8}, true}, {zoneOf([]api.Class{class(0, 0), class(1, -1), class(2, -1), class(0, 1)}, 3, 3, 1), 2, []int64{0, 100}, 2, []int64{4, 98}, true}, {zoneOf([]api.Class{class(0, 0), class(1, -1), class(2, -1), class(0, 1)}, 3, 2, 1), 2, []int64{0, 100}, 2, []int64{95, 98}, true},
		{zoneOf([]api.Class{class(0, 0), class(1, -1), class(2, -1), class(0, 1)}, 2, 3, 1), 2, []int64{0, 100}, 2, []int64{3, 98}, true}, {zoneOf([]api.Class{class(0, 0), class(1, -1), class(2, -1), class(0, 1)}, 2, 2, 1), 2, []int64{0, 8}, 2, []int64{3, 6}, true}, {zoneOf([]api.Class{class(0, 0), class(1, -1), class(2, -1), class(0, 1)}, 0, 0, 0), 2, []int64{0, 8}, 0, []int64{1, 2}, true},
		{zoneOf([]api.Class{class(1, -1), class(0, 0), class(2, -1), class(0, 1), class(4, -1)}, 3, 1, 3, 3), 3, []int64{0, 100}, 2, []int64{-4, 2, 104}, true},
		{zoneOf([]api.Class{class(0, 0), class(1, -1), class(0, 1)}, 3, 2), 1, []int64{math.MinInt64, math.MaxInt64}, 2, []int64{math.MaxInt64 - 3}, true}, {zoneOf([]api.Class{class(0, 0), class(1, -1), class(0, 1)}, 2, 3), 1, []int64{math.MinInt64, math.MaxInt64}, 2, []int64{math.MinInt64 + 3}, true}, {zoneOf([]api.Class{class(0, 0), class(1, -1), class(0, 1)}, 3, 3), 1, []int64{math.MinInt64, math.MaxInt64}, 2, []int64{math.MinInt64 + 4}, true},
		// no whole numbers of 64 bits
		{zoneOf([]api.Class{class(0, 0), class(1, -1)}, 0), 1, []int64{math.MaxInt64}, 2, nil, false}, {zoneOf([]api.Class{class(0, 0), class(1, -1)}, 2), 1, []int64{math.MaxInt64 - 2}, 2, nil, false}, {zoneOf([]api.Class{class(0, 0), class(1, -1)}, 1), 1, []int64{math.MaxInt64 - 2}, 2, []int64{math.MaxInt64}, true},
		{zoneOf([]api.Class{class(1, -1), class(0, 0)}, 0), 1, []int64{math.MinInt64}, 2, nil, false}, {zoneOf([]api.Class{class(1, -1), class(0, 0)}, 2), 1, []int64{math.MinInt64 + 2}, 2, nil, false}, {zoneOf([]api.Class{class(1, -1), class(0, 0)}, 1), 1, []int64{math.MinInt64 + 2}, 2, []int64{math.MinInt64}, true},
	} {
		vals, ok := zone.Sample(x.z, x.n, x.consts, x.r)
		if !slices.Equal(vals, x.want) || ok != x.ok {
			t.Error(i, vals, ok)
		}
		if ok && !zone.Same(zone.Of(vals, x.consts, x.r), x.z) {
			t.Error(i, "another zone")
		}
	}
}

func TestSameAndText(t *testing.T) {
	texts := map[string]api.Zone{
		"": {}, "1:-1": zoneOf([]api.Class{class(1, -1)}), "1:0 1 0:1 1 2:-1": zoneOf([]api.Class{class(1, 0), class(0, 1), class(2, -1)}, 1, 1),
		"1:-1 | 2:-1": zoneOf([]api.Class{class(1, -1), class(2, -1)}), "1:-1 | 2:-1 | 4:5": zoneOf([]api.Class{class(1, -1), class(2, -1), class(4, 5)}), "1:-1 7 2:-1 | 4:5": zoneOf([]api.Class{class(1, -1), class(2, -1), class(4, 5)}, 7),
		"| 7": zoneOf(nil, 7), "| 7 | 8": zoneOf(nil, 7, 8), "1:-1 7": zoneOf([]api.Class{class(1, -1)}, 7), "1:-1 7 | 8": zoneOf([]api.Class{class(1, -1)}, 7, 8), "-9:-8 -7": zoneOf([]api.Class{class(-9, -8)}, -7), "9223372036854775807:-9223372036854775808": zoneOf([]api.Class{class(math.MaxInt, math.MinInt)}),
		"1:-1 1 2:-1": zoneOf([]api.Class{class(1, -1), class(2, -1)}, 1), "1:-1 1 2:0": zoneOf([]api.Class{class(1, -1), class(2, 0)}, 1), "1:-1 2 2:0": zoneOf([]api.Class{class(1, -1), class(2, 0)}, 2), "12:34 56 78:90 -12": zoneOf([]api.Class{class(12, 34), class(78, 90)}, 56, -12),
	}
	for a, x := range texts {
		if g := zone.Text(x); g != a {
			t.Errorf("%q, not %q", g, a)
		}
		for b, y := range texts {
			if zone.Same(x, y) != (a == b) {
				t.Error(a, b)
			}
		}
	}
	if !zone.Same(api.Zone{}, api.Zone{Classes: []api.Class{}, Gaps: []int{}}) {
		t.Error("empty lists")
	}
}

func TestZonesOfNumbers(t *testing.T) {
	rnd := rand.New(rand.NewSource(22))
	number := func() int64 {
		if rnd.Intn(5) == 0 {
			return []int64{math.MinInt64, math.MinInt64 + 1, math.MaxInt64, math.MaxInt64 - 3}[rnd.Intn(4)]
		}
		return int64(rnd.Intn(30) - 15)
	}
	for range 5000 {
		var vals, consts []int64
		for range rnd.Intn(5) {
			vals = append(vals, number())
		}
		for range rnd.Intn(5) {
			consts = append(consts, number())
		}
		r := rnd.Intn(5)
		z := zone.Of(vals, consts, r)
		if !zone.Check(z, len(vals), consts, r) {
			t.Fatal(vals, consts, r, z)
		}
		for i := range z.Gaps {
			if z.Gaps[i] != halve.Clip(z.Gaps[i], r) {
				t.Fatal(z)
			}
		}
		if s, ok := zone.Sample(z, len(vals), consts, r); ok && !zone.Same(zone.Of(s, consts, r), z) {
			t.Fatal(vals, consts, r, s)
		}
		all := []api.Val{}
		num := map[api.Val]int64{}
		for i, v := range vals {
			all = append(all, attr(i))
			num[attr(i)] = v
		}
		for _, c := range consts {
			v := api.Val{Attr: -1, Num: c}
			all = append(all, v)
			num[v] = c
		}
		for _, a := range all {
			for _, b := range all {
				if zone.Compare(z, consts, a, b) != cmp.Compare(num[a], num[b]) {
					t.Fatal(vals, consts, a, b)
				}
			}
		}
	}
}
