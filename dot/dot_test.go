package dot_test

import (
	"math"
	"strings"
	"testing"

	"warder/api"
	"warder/dot"
	"warder/graph"
	"warder/model"
	"warder/zone"
)

func class(attrs, place int) api.Class { return api.Class{Attrs: attrs, Const: place} }

func zoneOf(classes []api.Class, gaps ...int) api.Zone {
	return api.Zone{Classes: classes, Gaps: gaps}
}

const example = `attr a = 1; attr b = 1; user u; user v; role r = u v; stage s; stage t in s; event e by r in s sets a max 1; event g by r in t; guard s; guard t on e if a > 5; milestone k of t on g; milestone l of s if done k final; sod e, g;`

func read(t *testing.T, s string) api.Model {
	t.Helper()
	m, f, _ := model.Read(s)
	if f.Err != api.OK {
		t.Fatal(s, f)
	}
	return m
}

func TestZone(t *testing.T) {
	m := read(t, example)
	consts := []int64{3, 8}
	for i, x := range []struct {
		z    api.Zone
		want string
	}{
		{zoneOf([]api.Class{class(1, -1), class(0, 0)}, 1), "a <1 3"}, {api.Zone{}, ""}, {zone.Of([]int64{3, 9}, consts, 3), "a=3 <4 8 <0 b"}, {zoneOf([]api.Class{class(3, 1)}), "a=b=8"}, {zoneOf([]api.Class{class(3, -1), class(0, 0), class(0, 1)}, 15, 0), "a=b <15 3 <0 8"},
		{zoneOf([]api.Class{class(4, 2), class(0, math.MaxInt)}), "?=? <? ?"}, {zoneOf([]api.Class{class(7, -9)}), "a=b=?"}, {zoneOf([]api.Class{class(0, -1), class(0, math.MinInt), class(1, 0)}, -7), " <-7  <? a=3"}, {zoneOf(nil, 5, 6), ""}, {zoneOf([]api.Class{class(1, -1)}, 5, 6), "a"},
	} {
		if g := dot.Zone(m, consts, x.z); g != x.want {
			t.Errorf("%d: %q", i, g)
		}
		if g := dot.Zone(m, []int64{8, 3, 8}, x.z); g != x.want {
			t.Errorf("%d: constants that do not rise: %q", i, g)
		}
	}
	if g := dot.Zone(api.Model{}, nil, zoneOf([]api.Class{class(1, 0)})); g != "?=?" {
		t.Error(g)
	}
}

func TestNode(t *testing.T) {
	m := read(t, example)
	z := zoneOf([]api.Class{class(1, -1), class(0, 0)}, 1)
	for i, x := range []struct {
		n    api.Node
		want string
	}{
		{api.Node{Zone: z}, " zone a <1 3"}, {api.Node{}, " zone "}, {api.Node{Zone: z, Open: 3, Done: 3, Did: []int{3, 2}, Count: []int{1, 0}}, " open s open t done k done l did u e did v e did v g count e 1 zone a <1 3"}, {api.Node{Zone: z, Open: 2, Count: []int{0, 7}}, " open t count g 7 zone a <1 3"},
		{api.Node{Open: 4, Done: 8, Did: []int{4, 0, 1}, Count: []int{-1, 0, 2}}, " open ? done ? did ? e did u ? count e -1 count ? 2 zone "},
	} {
		if g := dot.Node(m, []int64{3}, x.n); g != x.want {
			t.Errorf("%d: %q", i, g)
		}
	}
}

func TestGraph(t *testing.T) {
	m := read(t, "user u; role r = u; stage s; guard s; event e by r in s; milestone k of s on e final;")
	g, _ := graph.Explore(m, nil, 10)
	if s := dot.Graph(m, nil, g); s != "node 0 open s zone \ne by u to 1\nnode 1 done k did u e zone \nidle to 1\n" {
		t.Errorf("%q", s)
	}
	odd := graph.Graph{Nodes: []api.Node{{}, {Open: 1}, {Open: 2}}, Edges: [][]api.Edge{{{Event: 5, User: 7, To: -3}, {Event: -1, User: 0, To: 0}}, {{Event: 0, User: -1, To: math.MaxInt}, {Event: -2, User: 0, To: 1}}}}
	if s := dot.Graph(m, nil, odd); s != "node 0 zone \n? by ? to -3\nidle to 0\nnode 1 open s zone \ne by ? to 9223372036854775807\n? by u to 1\nnode 2 open ? zone \n" {
		t.Errorf("%q", s)
	}
	odd.Nodes = odd.Nodes[:1]
	if s := dot.Graph(m, nil, odd); s != "node 0 zone \n? by ? to -3\nidle to 0\n" {
		t.Errorf("%q", s)
	}
	if dot.Graph(m, nil, graph.Graph{}) != "" {
		t.Error("of nothing")
	}
	whole := read(t, example)
	g, _ = graph.Explore(whole, []int64{5}, 1000)
	s := dot.Graph(whole, []int64{5}, g)
	nodes, edges, _ := dot.Size(g)
	if strings.Count(s, "\n") != nodes+edges || strings.Contains(s, "?") || !strings.HasPrefix(s, "node 0 open s zone a=b <1 5\ne by u to 1\n") {
		t.Error(s)
	}
}

func TestSize(t *testing.T) {
	edges := func(to ...int) []api.Edge {
		var l []api.Edge
		for _, n := range to {
			l = append(l, api.Edge{To: n})
		}
		return l
	}
	for i, x := range []struct {
		g    graph.Graph
		want [3]int
	}{
		{graph.Graph{}, [3]int{0, 0, 0}}, {graph.Graph{Nodes: make([]api.Node, 3)}, [3]int{3, 0, 0}}, {graph.Graph{Nodes: make([]api.Node, 2), Edges: [][]api.Edge{edges(0, 1, 0), edges(0, 1)}}, [3]int{2, 5, 3}}, {graph.Graph{Nodes: make([]api.Node, 1), Edges: [][]api.Edge{edges(5), nil, edges(2, -1)}}, [3]int{1, 3, 1}}, {graph.Graph{Edges: [][]api.Edge{edges(0)}}, [3]int{0, 1, 1}},
	} {
		n, e, l := dot.Size(x.g)
		if [3]int{n, e, l} != x.want {
			t.Error(i, n, e, l)
		}
	}
}
