package graph_test

import (
	"math"
	"math/rand"
	"reflect"
	"slices"
	"testing"

	"warder/api"
	"warder/graph"
	"warder/model"
	"warder/node"
	"warder/step"
	"warder/succ"
)

var models = []string{
	"attr a = 1; user u; user v; role r = u v; stage s; stage t in s; event e by r in s sets a max 1; event g by r in t; guard s; guard t on e if a > 5; milestone k of t on g; milestone l of s if done k final; sod e, g;",
	"attr a = 1; attr b = 3; user u; role r = u; stage s; stage t; event e by r in s sets a max 2; event f by r in t sets b max 1; guard s; guard t if a < b; milestone k of s if a = 4 and b != a; milestone l of t on f if b <= 2;",
	"user u; user v; user w; role r = u v; role q = w v; stage s; stage t; guard s; guard t on e; event e by r in s; event f by q in t max 2; milestone k of s on f; milestone l of t if done k; guard s on f; sod e, f;",
	"user u; role r = u; stage s; stage t; guard s; event e by r in s; event f by r in t; milestone k of s on e; guard t on e; milestone l of t on f; guard s on f;",
	"", "stage s;", "attr a = 9; attr b = 9;",
}

func read(t *testing.T, s string) api.Model {
	t.Helper()
	m, f, _ := model.Read(s)
	if f.Err != api.OK {
		t.Fatal(s, f)
	}
	return m
}

func TestExample(t *testing.T) {
	g, e := graph.Explore(api.Model{}, nil, 1)
	if e != api.OK || len(g.Nodes) != 1 || !reflect.DeepEqual(g.Edges, [][]api.Edge{{{Event: -1, User: -1, To: 0}}}) || node.Text(g.Nodes[0]) != " / 0 0 0 0 0" {
		t.Error(g, e)
	}
}

func TestOrderOfNodes(t *testing.T) {
	m := read(t, models[0])
	consts := []int64{5}
	g, e := graph.Explore(m, consts, 1000)
	if e != api.OK || !node.Same(g.Nodes[0], node.Begin(m, consts)) || len(g.Nodes) != len(g.Edges) {
		t.Fatal(e)
	}
	// one by one, as the words say
	nodes := []api.Node{node.Begin(m, consts)}
	for at := 0; at < len(nodes); at++ {
		var edges []api.Edge
		for _, s := range succ.Next(m, consts, nodes[at]) {
			to := slices.IndexFunc(nodes, func(n api.Node) bool { return node.Same(n, s.Node) })
			if to < 0 {
				to = len(nodes)
				nodes = append(nodes, s.Node)
			}
			edges = append(edges, api.Edge{Event: s.Event, User: s.User, To: to})
		}
		if !slices.Equal(edges, g.Edges[at]) {
			t.Fatal(at, edges, g.Edges[at])
		}
	}
	if len(nodes) != len(g.Nodes) || len(nodes) < 8 {
		t.Fatal(len(nodes), len(g.Nodes))
	}
	for i := range nodes {
		if !node.Same(nodes[i], g.Nodes[i]) || graph.Find(g, nodes[i]) != i {
			t.Fatal(i)
		}
	}
}

func TestBudget(t *testing.T) {
	for _, text := range models {
		m := read(t, text)
		consts := model.Consts(m, nil)
		g, e := graph.Explore(m, consts, math.MaxInt)
		if e != api.OK {
			t.Fatal(text, e)
		}
		n := len(g.Nodes)
		for _, budget := range []int{n, n + 1, n + 1000} {
			again, e := graph.Explore(m, consts, budget)
			if e != api.OK || !reflect.DeepEqual(again, g) {
				t.Error(text, budget, e)
			}
		}
		for _, budget := range []int{n - 1, 0, -1, math.MinInt, n / 2} {
			if budget >= n {
				continue
			}
			again, e := graph.Explore(m, consts, budget)
			if e != api.ErrBudget || len(again.Nodes) != 0 || len(again.Edges) != 0 {
				t.Error(text, budget, e, len(again.Nodes))
			}
		}
	}
}

func TestModelsThatMayNotBe(t *testing.T) {
	m := read(t, models[0])
	m.Order = nil
	for _, budget := range []int{-1, 0, 1000} {
		if g, e := graph.Explore(m, []int64{5}, budget); e != api.ErrForm || len(g.Nodes) != 0 || len(g.Edges) != 0 {
			t.Error(e)
		}
	}
	if _, e := graph.Explore(api.Model{Attrs: make([]string, 50), Inits: make([]int64, 50)}, nil, 5); e != api.ErrForm {
		t.Error(e)
	}
}

func TestConstants(t *testing.T) {
	m := read(t, models[0])
	a, _ := graph.Explore(m, []int64{5, 9}, 1000)
	b, e := graph.Explore(m, []int64{9, 5, 9}, 1000)
	if e != api.OK || !reflect.DeepEqual(a, b) {
		t.Error("constants in another order", e)
	}
	c, _ := graph.Explore(m, []int64{5}, 1000)
	if len(c.Nodes) >= len(a.Nodes) {
		t.Error("one constant more", len(c.Nodes), len(a.Nodes))
	}
}

func TestNextAndFind(t *testing.T) {
	g := graph.Graph{Nodes: []api.Node{{Open: 1}, {Open: 2}, {Open: 1}}, Edges: [][]api.Edge{{{To: 7}, {To: 1}, {To: 1}}, nil, {{To: -3}}}}
	if l := graph.Next(g); !reflect.DeepEqual(l, [][]int{{7, 1, 1}, nil, {-3}}) {
		t.Error(l)
	}
	if graph.Find(g, api.Node{Open: 1}) != 0 || graph.Find(g, api.Node{Open: 2}) != 1 || graph.Find(g, api.Node{Open: 3}) != -1 || graph.Find(graph.Graph{}, api.Node{}) != -1 {
		t.Error("find")
	}
	l := graph.Next(graph.Graph{Nodes: make([]api.Node, 1), Edges: [][]api.Edge{{{To: 0}}}})
	if len(l) != 1 || !slices.Equal(l[0], []int{0}) {
		t.Error(l)
	}
}

func TestNodesAreOfTheirOwn(t *testing.T) {
	m := read(t, models[1])
	consts := model.Consts(m, nil)
	g, _ := graph.Explore(m, consts, 100000)
	var texts []string
	for _, n := range g.Nodes {
		texts = append(texts, node.Text(n))
	}
	for i, n := range g.Nodes {
		if node.Text(n) != texts[i] {
			t.Fatal("nodes share memory")
		}
		n.Did[0], n.Count[0], n.Zone.Classes[0].Attrs = 90, 91, 92
		if len(n.Zone.Gaps) > 0 {
			n.Zone.Gaps[0] = 93
		}
	}
	for i := range g.Edges {
		g.Edges[i] = append(g.Edges[i], api.Edge{To: -7})
	}
	for i := range g.Edges {
		if g.Edges[i][0].To == -7 {
			t.Fatal("lists of edges share memory")
		}
	}
}

func TestEachStateLiesInJustOneNode(t *testing.T) {
	rnd := rand.New(rand.NewSource(31))
	for _, text := range models {
		m := read(t, text)
		consts := model.Consts(m, nil)
		g, e := graph.Explore(m, consts, 100000)
		if e != api.OK {
			t.Fatal(e)
		}
		came := map[int]bool{}
		for range 1500 {
			s := step.Begin(m)
			for range 6 {
				n := node.Of(m, consts, s)
				at := graph.Find(g, n)
				if at < 0 {
					t.Fatal(text, node.Text(n))
				}
				came[at] = true
				for k := at + 1; k < len(g.Nodes); k++ {
					if node.Same(g.Nodes[k], n) {
						t.Fatal(text, "two nodes are one")
					}
				}
				l := step.Moves(m, s)
				v := l[rnd.Intn(len(l))]
				for i := range v.Vals {
					v.Vals[i] = int64(rnd.Intn(14) - 4)
				}
				s, _ = step.Do(m, s, v)
				to := node.Of(m, consts, s)
				if !slices.ContainsFunc(g.Edges[at], func(x api.Edge) bool {
					return x.Event == v.Event && x.User == v.User && node.Same(g.Nodes[x.To], to)
				}) {
					t.Fatal(text, "no such edge")
				}
			}
		}
		if len(g.Nodes) < 30 && len(came) != len(g.Nodes) {
			t.Error(text, "nodes without a state", len(came), len(g.Nodes))
		}
	}
}
