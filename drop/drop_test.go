package drop_test

import (
	"math"
	"math/rand"
	"slices"
	"testing"

	"warder/api"
	"warder/drop"
	"warder/zone"
)

func class(attrs, place int) api.Class { return api.Class{Attrs: attrs, Const: place} }

func zoneOf(classes []api.Class, gaps ...int) api.Zone {
	return api.Zone{Classes: classes, Gaps: gaps}
}

func three() api.Zone {
	return zoneOf([]api.Class{class(1, -1), class(2, -1), class(4, -1)}, 1, 2)
}

func TestDrop(t *testing.T) {
	with := func() api.Zone {
		return zoneOf([]api.Class{class(1, 0), class(6, -1), class(8, -1), class(16, 1)}, 3, 1, 0)
	}
	for i, x := range []struct {
		z    api.Zone
		a, r int
		want api.Zone
	}{
		{three(), 1, 3, zoneOf([]api.Class{class(1, -1), class(4, -1)}, 4)}, {three(), 1, 2, zoneOf([]api.Class{class(1, -1), class(4, -1)}, 3)}, {three(), 1, 0, zoneOf([]api.Class{class(1, -1), class(4, -1)}, 0)}, {three(), 1, 99, zoneOf([]api.Class{class(1, -1), class(4, -1)}, 4)},
		{three(), 0, 3, zoneOf([]api.Class{class(2, -1), class(4, -1)}, 2)}, {three(), 2, 3, zoneOf([]api.Class{class(1, -1), class(2, -1)}, 1)}, {three(), 2, 0, zoneOf([]api.Class{class(1, -1), class(2, -1)}, 1)},
		{three(), 3, 3, three()}, {three(), -1, 3, three()}, {three(), 31, 3, three()}, {three(), math.MaxInt, 3, three()}, {three(), math.MinInt, 3, three()},
		{with(), 0, 3, zoneOf([]api.Class{class(0, 0), class(6, -1), class(8, -1), class(16, 1)}, 3, 1, 0)}, {with(), 1, 3, zoneOf([]api.Class{class(1, 0), class(4, -1), class(8, -1), class(16, 1)}, 3, 1, 0)}, {with(), 3, 3, zoneOf([]api.Class{class(1, 0), class(6, -1), class(16, 1)}, 3, 2)}, {with(), 4, 3, zoneOf([]api.Class{class(1, 0), class(6, -1), class(8, -1), class(0, 1)}, 3, 1, 0)},
		{zoneOf([]api.Class{class(1, -1)}), 0, 3, api.Zone{}}, {zoneOf([]api.Class{class(1, 0)}), 0, 3, zoneOf([]api.Class{class(0, 0)})}, {api.Zone{}, 0, 3, api.Zone{}}, {zoneOf([]api.Class{class(1, -1), class(2, -1)}, 3), 0, 2, zoneOf([]api.Class{class(2, -1)})}, {zoneOf([]api.Class{class(1, -1), class(2, -1)}, 3), 1, 2, zoneOf([]api.Class{class(1, -1)})},
		// not as many gaps as classes less one
		{zoneOf([]api.Class{class(1, -1), class(2, -1)}), 0, 2, zoneOf([]api.Class{class(1, -1), class(2, -1)})}, {zoneOf([]api.Class{class(1, -1)}, 4), 0, 2, zoneOf([]api.Class{class(1, -1)}, 4)}, {zoneOf(nil, 4), 0, 2, zoneOf(nil, 4)}, {zoneOf([]api.Class{class(1, -1), class(2, -1), class(4, -1)}, 1, 1, 1), 1, 2, zoneOf([]api.Class{class(1, -1), class(2, -1), class(4, -1)}, 1, 1, 1)},
		// in several classes: from the first one on
		{zoneOf([]api.Class{class(1, -1), class(3, -1), class(1, -1), class(1, -1), class(2, -1), class(1, -1)}, 1, 1, 1, 1, 5), 0, 2, zoneOf([]api.Class{class(2, -1), class(2, -1)}, 3)}, {zoneOf([]api.Class{class(2, -1), class(1, -1), class(1, -1), class(4, -1)}, 0, 0, 0), 0, 3, zoneOf([]api.Class{class(2, -1), class(4, -1)}, 2)}, {zoneOf([]api.Class{class(1, -1), class(1, -1), class(1, -1)}, 2, 3), 0, 3, api.Zone{}},
		// a class of another Const than -1 stays, and one that did not have it
		{zoneOf([]api.Class{class(1, -5), class(2, -1)}, 1), 0, 3, zoneOf([]api.Class{class(0, -5), class(2, -1)}, 1)}, {zoneOf([]api.Class{class(0, -1), class(2, -1)}, 1), 0, 3, zoneOf([]api.Class{class(0, -1), class(2, -1)}, 1)},
	} {
		kept := zone.Text(x.z)
		if g := drop.Drop(x.z, x.a, x.r); !zone.Same(g, x.want) {
			t.Error(i, g)
		}
		if zone.Text(x.z) != kept {
			t.Error(i, "what is handed in is changed")
		}
	}
}

func TestNewMemory(t *testing.T) {
	z := three()
	for _, g := range []api.Zone{drop.Drop(z, 9, 3), drop.Drop(z, 0, 3), drop.Clip(z, 9), drop.All(z, nil, 3), drop.All(z, []int{9}, 3)} {
		for i := range g.Classes {
			g.Classes[i].Attrs = 64
		}
		for i := range g.Gaps {
			g.Gaps[i] = 64
		}
		if !zone.Same(z, three()) {
			t.Fatal("shared")
		}
	}
}

func TestClip(t *testing.T) {
	z := zoneOf([]api.Class{class(1, -1)}, -4, 0, 1, 3, 4, math.MaxInt, math.MinInt)
	for r, want := range map[int][]int{-1: {0, 0, 0, 0, 0, 0, 0}, 0: {0, 0, 0, 0, 0, 0, 0}, 1: {0, 0, 1, 1, 1, 1, 0}, 2: {0, 0, 1, 3, 3, 3, 0}, 3: {0, 0, 1, 3, 4, 7, 0}, 50: {0, 0, 1, 3, 4, 1<<20 - 1, 0}} {
		if g := drop.Clip(z, r); !slices.Equal(g.Gaps, want) || !slices.Equal(g.Classes, z.Classes) {
			t.Error(r, g)
		}
	}
	if g := drop.Clip(api.Zone{}, 3); len(g.Classes) != 0 || len(g.Gaps) != 0 {
		t.Error(g)
	}
}

func TestAll(t *testing.T) {
	z := zoneOf([]api.Class{class(1, -1), class(2, -1), class(4, -1), class(8, 0)}, 1, 2, 3)
	if g := drop.All(z, []int{1, 2}, 4); !zone.Same(g, zoneOf([]api.Class{class(1, -1), class(8, 0)}, 8)) {
		t.Error(g)
	}
	if g := drop.All(z, []int{1, 2}, 2); !zone.Same(g, zoneOf([]api.Class{class(1, -1), class(8, 0)}, 3)) {
		t.Error(g)
	}
	if g := drop.All(z, []int{3, 0, 0, 9}, 2); !zone.Same(g, zoneOf([]api.Class{class(2, -1), class(4, -1), class(0, 0)}, 2, 3)) {
		t.Error(g)
	}
	if g := drop.All(z, nil, 0); !zone.Same(g, z) {
		t.Error(g)
	}
}

func TestZonesOfNumbers(t *testing.T) {
	rnd := rand.New(rand.NewSource(23))
	for range 5000 {
		vals := make([]int64, 1+rnd.Intn(5))
		for i := range vals {
			vals[i] = int64(rnd.Intn(30))
		}
		consts := []int64{3, 9, 11, 20}[:rnd.Intn(5)]
		r := rnd.Intn(6)
		z := zone.Of(vals, consts, r)
		// attributes that are dropped are the last ones, that the others keep their places
		n := rnd.Intn(len(vals) + 1)
		var l []int
		for i := n; i < len(vals); i++ {
			l = append(l, i)
		}
		rnd.Shuffle(len(l), func(i, k int) { l[i], l[k] = l[k], l[i] })
		want := zone.Of(vals[:n], consts, r)
		if g := drop.All(z, l, r); !zone.Same(g, want) {
			t.Fatal(vals, consts, r, l, g, want)
		}
		one := z
		for _, a := range l {
			one = drop.Drop(one, a, r)
		}
		if !zone.Same(one, want) {
			t.Fatal(vals, consts, r, l, one, want)
		}
		if g := drop.Clip(z, r-1); !zone.Same(g, zone.Of(vals, consts, r-1)) {
			t.Fatal(vals, consts, r, g)
		}
	}
}
