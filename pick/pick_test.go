package pick_test

import (
	"math"
	"math/rand"
	"slices"
	"testing"

	"warder/api"
	"warder/drop"
	"warder/graph"
	"warder/model"
	"warder/node"
	"warder/pick"
	"warder/put"
	"warder/run"
	"warder/state"
	"warder/step"
	"warder/write"
	"warder/zone"
)

func class(attrs, place int) api.Class { return api.Class{Attrs: attrs, Const: place} }

func zoneOf(classes []api.Class, gaps ...int) api.Zone {
	return api.Zone{Classes: classes, Gaps: gaps}
}

func read(t *testing.T, s string) api.Model {
	t.Helper()
	m, f, _ := model.Read(s)
	if f.Err != api.OK {
		t.Fatal(s, f)
	}
	return m
}

func TestNumber(t *testing.T) {
	consts := []int64{10, 20}
	vals := []int64{99, 15, 18}
	between := func(ahead, behind int) api.Zone {
		return zoneOf([]api.Class{class(2, -1), class(1, -1), class(4, -1)}, ahead, behind)
	}
	for i, x := range []struct {
		z    api.Zone
		a, r int
		want int64
		e    api.Errno
	}{
		// its class has a constant, or another attribute
		{zoneOf([]api.Class{class(1, 0)}), 0, 2, 10, api.OK}, {zoneOf([]api.Class{class(7, 1)}), 1, 2, 20, api.OK}, {zoneOf([]api.Class{class(7, -1)}), 0, 2, 15, api.OK}, {zoneOf([]api.Class{class(7, -1)}), 1, 2, 99, api.OK}, {zoneOf([]api.Class{class(6, -5)}), 2, 2, 15, api.OK},
		{zoneOf([]api.Class{class(1, 2)}), 0, 2, 0, api.ErrNone}, {zoneOf([]api.Class{class(3, 2)}), 0, 2, 0, api.ErrNone}, {zoneOf([]api.Class{class(9, -1)}), 0, 2, 0, api.ErrNone}, {zoneOf([]api.Class{class(9, -1)}), 3, 2, 99, api.OK}, {zoneOf([]api.Class{class(25, -1)}), 0, 2, 0, api.ErrNone},
		// alone
		{zoneOf([]api.Class{class(1, -1)}), 0, 2, 0, api.OK}, {zoneOf([]api.Class{class(1, -3)}), 0, 2, 0, api.OK}, {zoneOf([]api.Class{class(1, -1)}, 7, 7), 0, 2, 0, api.OK},
		{zoneOf([]api.Class{class(1, -1), class(2, -1)}, 2), 0, 2, 12, api.OK}, {zoneOf([]api.Class{class(1, -1), class(2, 0)}, 0), 0, 2, 9, api.OK}, {zoneOf([]api.Class{class(1, -1), class(0, 1)}, 3), 0, 2, 16, api.OK}, {zoneOf([]api.Class{class(2, -1), class(1, -1)}, 3), 0, 2, 19, api.OK}, {zoneOf([]api.Class{class(0, 0), class(1, -1)}, 0), 0, 2, 11, api.OK}, {zoneOf([]api.Class{class(6, -1), class(1, -1)}, 1), 0, 2, 17, api.OK},
		{between(0, 1), 0, 2, 16, api.OK}, {between(3, 1), 0, 2, 16, api.OK}, {between(3, 0), 0, 2, 17, api.OK}, {between(3, 3), 0, 2, 19, api.OK}, {between(1, 3), 0, 2, 17, api.OK}, {between(3, 1), 0, 3, 19, api.OK}, {between(1, 0), 0, 1, 17, api.OK}, {between(0, 0), 0, 0, 16, api.OK},
		// no such attribute, or not as many gaps as classes less one
		{between(0, 1), 3, 2, 0, api.ErrNone}, {between(0, 1), -1, 2, 0, api.ErrNone}, {between(0, 1), 31, 2, 0, api.ErrNone}, {api.Zone{}, 0, 2, 0, api.ErrNone}, {zoneOf([]api.Class{class(1, -1), class(2, -1)}), 0, 2, 0, api.ErrNone}, {zoneOf([]api.Class{class(1, -1), class(2, -1)}, 1, 1), 0, 2, 0, api.ErrNone}, {zoneOf([]api.Class{class(3, -1), class(4, -1)}), 0, 2, 15, api.OK},
		// the class from which it is told has no number
		{zoneOf([]api.Class{class(1, -1), class(0, -1)}, 1), 0, 2, 0, api.ErrNone}, {zoneOf([]api.Class{class(1, -1), class(0, -7)}, 1), 0, 2, 0, api.ErrNone}, {zoneOf([]api.Class{class(1, -1), class(8, -1)}, 1), 0, 2, 0, api.ErrNone}, {zoneOf([]api.Class{class(0, 2), class(1, -1)}, 1), 0, 2, 0, api.ErrNone}, {zoneOf([]api.Class{class(0, -1), class(1, -1)}, 1), 0, 2, 0, api.ErrNone}, {zoneOf([]api.Class{class(2, -4), class(1, -1)}, 1), 0, 2, 17, api.OK},
		{zoneOf([]api.Class{class(2, -1), class(1, -1), class(0, -1)}, 1, 1), 0, 2, 17, api.OK}, {zoneOf([]api.Class{class(0, -1), class(1, -1), class(2, -1)}, 1, 1), 0, 2, 0, api.ErrNone}, {zoneOf([]api.Class{class(0, -1), class(1, -1), class(2, -1)}, 3, 1), 0, 2, 13, api.OK},
	} {
		if n, e := pick.Number(x.z, x.a, vals, consts, x.r); n != x.want || e != x.e {
			t.Error(i, n, e)
		}
		if n, e := pick.Number(x.z, x.a, vals, []int64{20, 10, 20}, x.r); n != x.want || e != x.e {
			t.Error(i, "constants that do not rise", n, e)
		}
	}
}

// TestNumberTwice: where a stands in more classes than one, it counts for nothing in the one from which its number is told.
func TestNumberTwice(t *testing.T) {
	consts := []int64{10, 20}
	vals := []int64{99, 15, 18}
	for i, x := range []struct {
		z    api.Zone
		a    int
		want int64
		e    api.Errno
	}{
		// from the class behind: its constant, or the least other attribute
		{zoneOf([]api.Class{class(1, -1), class(3, -1)}, 1), 0, 13, api.OK}, {zoneOf([]api.Class{class(1, -1), class(7, -1)}, 1), 0, 13, api.OK}, {zoneOf([]api.Class{class(1, -1), class(5, -1)}, 1), 0, 16, api.OK}, {zoneOf([]api.Class{class(2, -1), class(3, -1)}, 1), 1, 97, api.OK}, {zoneOf([]api.Class{class(4, -1), class(6, -1)}, 1), 2, 13, api.OK}, {zoneOf([]api.Class{class(1, -1), class(1, 0)}, 1), 0, 8, api.OK}, {zoneOf([]api.Class{class(1, -1), class(3, 0)}, 1), 0, 8, api.OK}, {zoneOf([]api.Class{class(4, -1), class(1, -1), class(3, -1)}, 3, 1), 0, 13, api.OK}, {zoneOf([]api.Class{class(8, -1), class(10, -1)}, 1), 3, 13, api.OK},
		// the class behind has neither, or an attribute beyond the numbers
		{zoneOf([]api.Class{class(1, -1), class(1, -1)}, 1), 0, 0, api.ErrNone}, {zoneOf([]api.Class{class(1, -4), class(1, -7)}, 1), 0, 0, api.ErrNone}, {zoneOf([]api.Class{class(4, -1), class(1, -1), class(1, -1)}, 3, 1), 0, 0, api.ErrNone}, {zoneOf([]api.Class{class(1, -1), class(9, -1)}, 1), 0, 0, api.ErrNone}, {zoneOf([]api.Class{class(1, -1), class(3, 2)}, 1), 0, 0, api.ErrNone},
		// from the first class that has it, or from the one ahead of that
		{zoneOf([]api.Class{class(3, -1), class(1, -1)}, 1), 0, 15, api.OK}, {zoneOf([]api.Class{class(1, 0), class(1, -1)}, 1), 0, 10, api.OK}, {zoneOf([]api.Class{class(1, 0), class(3, -1), class(1, -1)}, 1, 1), 0, 10, api.OK}, {zoneOf([]api.Class{class(4, -1), class(1, -1), class(3, -1)}, 1, 1), 0, 20, api.OK}, {zoneOf([]api.Class{class(4, -1), class(1, -1), class(1, -1)}, 1, 1), 0, 20, api.OK},
	} {
		if n, e := pick.Number(x.z, x.a, vals, consts, 2); n != x.want || e != x.e {
			t.Error(i, n, e)
		}
	}
}

// TestNumberOfOthers: the number of an attribute hangs on those of the others alone, in zones of anything.
func TestNumberOfOthers(t *testing.T) {
	rnd := rand.New(rand.NewSource(40))
	consts := []int64{10, 20}
	told := 0
	for range 20000 {
		z := api.Zone{}
		for i := range 1 + rnd.Intn(4) {
			z.Classes = append(z.Classes, class(rnd.Intn(8), max(rnd.Intn(6)-3, -1)))
			if i > 0 {
				z.Gaps = append(z.Gaps, rnd.Intn(4))
			}
		}
		a := rnd.Intn(3)
		vals := []int64{99, 15, 18}
		n, e := pick.Number(z, a, vals, consts, 2)
		vals[a] = -1000
		if x, xe := pick.Number(z, a, vals, consts, 2); x != n || xe != e {
			t.Fatal(z, a, n, e, x, xe)
		}
		if e == api.OK {
			told++
		}
	}
	if told < 5000 {
		t.Error("too few were told", told)
	}
}

func TestNumberRange(t *testing.T) {
	up := func(g int) api.Zone { return zoneOf([]api.Class{class(2, -1), class(1, -1)}, g) }
	down := func(g int) api.Zone { return zoneOf([]api.Class{class(1, -1), class(2, -1)}, g) }
	for i, x := range []struct {
		z    api.Zone
		b    int64
		want int64
		e    api.Errno
	}{
		{up(0), math.MaxInt64 - 1, math.MaxInt64, api.OK}, {up(0), math.MaxInt64, 0, api.ErrRange}, {up(2), math.MaxInt64 - 3, math.MaxInt64, api.OK}, {up(2), math.MaxInt64 - 2, 0, api.ErrRange}, {up(1), math.MaxInt64, 0, api.ErrRange},
		{down(0), math.MinInt64 + 1, math.MinInt64, api.OK}, {down(0), math.MinInt64, 0, api.ErrRange}, {down(2), math.MinInt64 + 3, math.MinInt64, api.OK}, {down(2), math.MinInt64 + 2, 0, api.ErrRange}, {down(1), math.MinInt64, 0, api.ErrRange},
	} {
		if n, e := pick.Number(x.z, 0, []int64{0, x.b}, nil, 2); n != x.want || e != x.e {
			t.Error(i, n, e)
		}
	}
}

// slowVals is what the words say of the numbers, by writing all.
func slowVals(z, to api.Zone, l []int, vals, consts []int64, r int) ([]int64, api.Errno) {
	has := func(all []api.Zone) bool {
		return slices.ContainsFunc(all, func(x api.Zone) bool { return zone.Same(x, to) })
	}
	if !has(write.Write(z, l, r)) {
		return nil, api.ErrNone
	}
	vals = slices.Clone(vals)
	var out []int64
	for i, a := range l {
		for _, x := range put.Put(drop.Drop(z, a, r-i), a, r-i) {
			if has(write.Write(x, l[i+1:], r-i-1)) {
				z = x
				break
			}
		}
		n, e := pick.Number(z, a, vals, consts, r-i-1)
		if e != api.OK {
			return nil, e
		}
		vals[a] = n
		out = append(out, n)
	}
	return out, api.OK
}

func TestVals(t *testing.T) {
	rnd := rand.New(rand.NewSource(38))
	found := 0
	for range 1500 {
		vals := make([]int64, 1+rnd.Intn(3))
		for i := range vals {
			vals[i] = int64(rnd.Intn(16))
		}
		consts := []int64{3, 5, 11}[:rnd.Intn(4)]
		l := rnd.Perm(len(vals))[:rnd.Intn(len(vals)+1)]
		l = l[:min(len(l), 2)]
		r := len(l) + rnd.Intn(2)
		z := zone.Of(vals, consts, r)
		// numbers that were written, and sometimes a zone of anything
		next := slices.Clone(vals)
		for _, a := range l {
			next[a] = int64(rnd.Intn(30) - 7)
		}
		if rnd.Intn(5) == 0 {
			next[rnd.Intn(len(next))]++
		}
		to := zone.Of(next, consts, r-len(l))
		got, e := pick.Vals(z, to, l, vals, consts, r)
		want, we := slowVals(z, to, l, vals, consts, r)
		if !slices.Equal(got, want) || e != we {
			t.Fatal(vals, consts, l, r, next, got, e, want, we)
		}
		if e == api.OK {
			found++
			for i, a := range l {
				next[a] = got[i]
			}
			for i := range vals {
				if !slices.Contains(l, i) {
					next[i] = vals[i]
				}
			}
			if !zone.Same(zone.Of(next, consts, r-len(l)), to) {
				t.Fatal(vals, consts, l, r, next, got)
			}
		}
	}
	if found < 500 {
		t.Error("too few were found", found)
	}
}

func TestValsEdges(t *testing.T) {
	z := zone.Of([]int64{1, 2}, nil, 2)
	for i, x := range []struct {
		z, to  api.Zone
		l      []int
		vals   []int64
		consts []int64
		r      int
		want   []int64
		e      api.Errno
	}{
		{z, z, nil, []int64{1, 2}, nil, 2, nil, api.OK}, {z, z, nil, nil, nil, -5, nil, api.OK}, {z, zone.Of([]int64{2, 1}, nil, 2), nil, []int64{1, 2}, nil, 2, nil, api.ErrNone},
		{z, z, []int{0}, []int64{1, 2}, nil, 0, nil, api.ErrNone}, {z, z, []int{0, 1}, []int64{1, 2}, nil, 1, nil, api.ErrNone}, {z, z, []int{0}, []int64{1, 2}, nil, math.MinInt, nil, api.ErrNone}, {z, z, []int{31}, []int64{1, 2}, nil, 3, nil, api.ErrNone}, {z, zoneOf(nil, 1), []int{0}, []int64{1, 2}, nil, 2, nil, api.ErrNone}, {zoneOf(nil, 1), z, []int{0}, []int64{1, 2}, nil, 2, nil, api.ErrNone},
		{z, zone.Of([]int64{2, 2}, nil, 1), []int{0}, []int64{1, 2}, nil, 2, []int64{2}, api.OK}, {z, zone.Of([]int64{2, 2}, nil, 1), []int{0}, []int64{7}, nil, 2, nil, api.ErrNone},
		{zone.Of([]int64{5}, []int64{math.MaxInt64}, 1), zoneOf([]api.Class{class(0, 0), class(1, -1)}, 0), []int{0}, []int64{5}, []int64{math.MaxInt64}, 1, nil, api.ErrRange}, {zone.Of([]int64{5}, []int64{math.MinInt64}, 2), zoneOf([]api.Class{class(1, -1), class(0, 0)}, 1), []int{0}, []int64{5}, []int64{math.MinInt64}, 2, nil, api.ErrRange},
		// constants that do not rise
		{zone.Of([]int64{5}, []int64{7, 9}, 1), zone.Of([]int64{9}, []int64{7, 9}, 0), []int{0}, []int64{5}, []int64{9, 7, 9}, 1, []int64{9}, api.OK},
	} {
		kept := slices.Clone(x.vals)
		if got, e := pick.Vals(x.z, x.to, x.l, x.vals, x.consts, x.r); !slices.Equal(got, x.want) || e != x.e {
			t.Error(i, got, e)
		}
		if !slices.Equal(kept, x.vals) {
			t.Error(i, "what is handed in is changed")
		}
	}
}

const example = `attr a = 1; user u; user v; role r = u v; stage s; stage t in s;
event e by r in s sets a max 1; event g by r in t; guard s; guard t on e if a > 5;
milestone k of t on g; milestone l of s if done k final; sod e, g;`

func TestMove(t *testing.T) {
	m := read(t, example)
	consts := []int64{5}
	s := step.Begin(m)
	to := func(a int64, user int) api.Node {
		next, e := step.Do(m, s, api.Move{Event: 0, User: user, Vals: []int64{a}})
		if e != api.OK {
			t.Fatal(e)
		}
		return node.Of(m, consts, next)
	}
	for i, x := range []struct {
		event, user int
		to          api.Node
		want        []int64
		e           api.Errno
	}{
		{0, 0, to(100, 0), []int64{6}, api.OK}, {0, 1, to(100, 1), []int64{6}, api.OK}, {0, 0, to(5, 0), []int64{5}, api.OK}, {0, 0, to(-100, 0), []int64{4}, api.OK},
		{0, 0, to(100, 1), nil, api.ErrStep}, {0, 2, to(100, 0), nil, api.ErrStep}, {1, 0, to(100, 0), nil, api.ErrStep}, {2, 0, to(100, 0), nil, api.ErrStep}, {-2, 0, to(100, 0), nil, api.ErrStep}, {math.MinInt, 0, to(100, 0), nil, api.ErrStep}, {0, 0, node.Of(m, consts, s), nil, api.ErrStep}, {0, 0, api.Node{}, nil, api.ErrStep}, {-1, -1, node.Of(m, consts, s), nil, api.ErrStep},
	} {
		v, e := pick.Move(m, consts, s, x.event, x.user, x.to)
		if e != x.e || !slices.Equal(v.Vals, x.want) || e == api.OK && (v.Event != x.event || v.User != x.user) || e != api.OK && (v.Event != 0 || v.User != 0) {
			t.Error(i, v, e)
		}
	}
	// the idle move, where nothing is enabled
	end := api.State{Vals: []int64{1}, Did: []int{0, 0}, Count: []int{0, 0}}
	n := node.Of(m, consts, end)
	if v, e := pick.Move(m, consts, end, -1, -1, n); e != api.OK || v.Event != -1 || v.User != -1 || len(v.Vals) != 0 {
		t.Error(v, e)
	}
	if v, e := pick.Move(m, consts, end, -1, -1, to(5, 0)); e != api.ErrStep || v.Event != 0 {
		t.Error(v, e)
	}
	if v, e := pick.Move(m, consts, api.State{}, -1, -1, n); e != api.ErrStep || v.Event != 0 {
		t.Error("a state that may not be", v, e)
	}
	// beyond the whole numbers of 64 bits goes ahead of a move that may not be made
	far := read(t, "attr a = 9223372036854775807; user u; role r = u; stage s; guard s; event e by r in s sets a max 1;")
	edge := []int64{math.MaxInt64}
	fs := step.Begin(far)
	fto := node.Of(far, edge, fs)
	fto.Zone = zoneOf([]api.Class{class(0, 0), class(1, -1)}, 0)
	for _, user := range []int{0, 5} {
		if v, e := pick.Move(far, edge, fs, 0, user, fto); e != api.ErrRange || len(v.Vals) != 0 {
			t.Error(v, e)
		}
	}
}

func TestWay(t *testing.T) {
	m := read(t, example)
	consts := []int64{5}
	g, _ := graph.Explore(m, consts, 1000)
	if l, e := pick.Way(m, consts, g, nil); len(l) != 0 || e != api.OK {
		t.Error(l, e)
	}
	if l, e := pick.Way(m, consts, graph.Graph{}, nil); len(l) != 0 || e != api.OK {
		t.Error(l, e)
	}
	l, e := pick.Way(m, consts, g, []int{2, 0, 0})
	if e != api.OK || len(l) != 3 || l[0].Event != 0 || l[0].User != 0 || !slices.Equal(l[0].Vals, []int64{6}) || l[1].Event != 1 || l[1].User != 1 || l[2].Event != -1 {
		t.Error(l, e)
	}
	for i, way := range [][]int{{-1}, {99}, {len(g.Edges[0])}, {2, 5}, {2, 0, -1}, {math.MaxInt}} {
		if l, e := pick.Way(m, consts, g, way); len(l) != 0 || e != api.ErrNone {
			t.Error(i, l, e)
		}
	}
	bad := graph.Graph{Nodes: g.Nodes, Edges: slices.Clone(g.Edges)}
	for i, x := range []struct {
		edge api.Edge
		e    api.Errno
	}{{api.Edge{To: len(g.Nodes)}, api.ErrNone}, {api.Edge{To: -1}, api.ErrNone}, {api.Edge{Event: 7}, api.ErrStep}, {api.Edge{Event: 0, User: 0, To: 0}, api.ErrStep}, {api.Edge{Event: -1, User: -1, To: 0}, api.ErrStep}} {
		bad.Edges[0] = []api.Edge{x.edge}
		if l, e := pick.Way(m, consts, bad, []int{0, 0}); len(l) != 0 || e != x.e {
			t.Error(i, l, e)
		}
	}
	if l, e := pick.Way(m, consts, graph.Graph{Nodes: g.Nodes}, []int{0}); len(l) != 0 || e != api.ErrNone {
		t.Error("no edges", l, e)
	}
	if l, e := pick.Way(m, consts, graph.Graph{Edges: g.Edges}, []int{0}); len(l) != 0 || e != api.ErrNone {
		t.Error("no nodes", l, e)
	}
}

func TestAlongEachWay(t *testing.T) {
	rnd := rand.New(rand.NewSource(39))
	for _, text := range []string{
		example,
		"attr a = 1; attr b = 3; user u; role r = u; stage s; stage t; event e by r in s sets a max 2; event f by r in t sets b max 1; guard s; guard t if a < b; milestone k of s if a = 4 and b != a; milestone l of t on f if b <= 2;",
		"attr a = 0; attr b = 0; attr c = 7; user u; role r = u; stage s; stage t in s; event e by r in s sets a, b max 1; event f by r in t sets c max 1; guard s; guard t on e if a >= b or c = 3; milestone k of t on f if c > a final;",
		"attr a = 0; attr b = 0; user u; role r = u; stage s; event e by r in s sets b, a max 2; guard s;",
		"user u; user v; user w; role r = u v; role q = w v; stage s; stage t; guard s; guard t on e; event e by r in s; event f by q in t max 2; milestone k of s on f; milestone l of t if done k; guard s on f; sod e, f;",
	} {
		m := read(t, text)
		consts := model.Consts(m, nil)
		g, e := graph.Explore(m, consts, 100000)
		if e != api.OK {
			t.Fatal(e)
		}
		for range 120 {
			var way, nodes []int
			at := 0
			for range 6 {
				nodes = append(nodes, at)
				edge := rnd.Intn(len(g.Edges[at]))
				way = append(way, edge)
				at = g.Edges[at][edge].To
			}
			nodes = append(nodes, at)
			l, e := pick.Way(m, consts, g, way)
			if e != api.OK {
				t.Fatal(text, way, e)
			}
			all, e := run.All(m, l)
			if e != api.OK {
				t.Fatal(text, way, e)
			}
			for i, s := range all {
				if !node.Same(node.Of(m, consts, s), g.Nodes[nodes[i]]) {
					t.Fatal(text, way, i, state.Text(s))
				}
			}
		}
	}
}
