package check_test

import (
	"math/rand"
	"slices"
	"testing"

	"warder/api"
	"warder/atoms"
	"warder/check"
	"warder/graph"
	"warder/label"
	"warder/model"
	"warder/node"
	"warder/norm"
	"warder/state"
	"warder/step"
	"warder/tree"
)

func read(t *testing.T, s string) api.Model {
	t.Helper()
	m, f, _ := model.Read(s)
	if f.Err != api.OK {
		t.Fatal(s, f)
	}
	return m
}

func property(t *testing.T, m api.Model, s string) []api.Inst {
	t.Helper()
	l, f, _ := model.Property(m, s)
	if f.Err != api.OK {
		t.Fatal(s, f)
	}
	return l
}

// byHand is a graph whose nodes have these open stages, and lead to these nodes.
func byHand(open []int, next [][]int) graph.Graph {
	var g graph.Graph
	for i := range open {
		g.Nodes = append(g.Nodes, api.Node{Open: open[i]})
		var l []api.Edge
		for _, to := range next[i] {
			l = append(l, api.Edge{To: to})
		}
		g.Edges = append(g.Edges, l)
	}
	return g
}

func set(s string) []bool {
	var l []bool
	for _, r := range s {
		l = append(l, r == 'x')
	}
	return l
}

func TestSigns(t *testing.T) {
	m := read(t, "stage p; stage q;")
	// 0 leads to 1 and 2, 1 to 3, 2 and 3 to themselves; p is open in 0, 1, 2, q in 3
	g := byHand([]int{1, 1, 1, 2}, [][]int{{1, 2}, {3}, {2}, {3}})
	for s, want := range map[string]string{
		"true": "xxxx", "false": "....", "open p": "xxx.", "not open p": "...x", "open p and open q": "....", "open p or open q": "xxxx", "open p implies open q": "...x", "open q implies open p": "xxx.",
		"AX open q": ".x.x", "EX open q": ".x.x", "EX open p": "x.x.", "AX open p": "x.x.", "AX (open p or open q)": "xxxx",
		"EF open q": "xx.x", "AF open q": ".x.x", "EG open p": "x.x.", "AG open p": "..x.", "AG EF open q": ".x.x", "EF AG open q": "xx.x", "AF AG open p": "..x.",
		"E [open p U open q]": "xx.x", "A [open p U open q]": ".x.x", "E [open q U open p]": "xxx.", "A [false U open q]": "...x", "E [false U open p]": "xxx.", "A [true U open p]": "xxx.", "E [open p U false]": "....", "A [open p U AG open p]": "..x.",
		"AG true": "xxxx", "EG true": "xxxx", "AF false": "....", "not EX not open p": "x.x.",
	} {
		l, e := check.Label(m, nil, g, property(t, m, s))
		if e != api.OK || !slices.Equal(l, set(want)) {
			t.Error(s, l, e)
		}
		holds, e := check.Holds(m, nil, g, property(t, m, s))
		if e != api.OK || holds != (want[0] == 'x') {
			t.Error(s, holds, e)
		}
	}
}

func TestErrors(t *testing.T) {
	m := read(t, "stage p;")
	g := byHand([]int{1}, [][]int{{0}})
	truth := []api.Inst{{Op: api.OpTrue}}
	for i, x := range []struct {
		g    graph.Graph
		prop []api.Inst
		e    api.Errno
	}{
		{g, nil, api.ErrForm}, {g, []api.Inst{{Op: api.OpNot}}, api.ErrForm}, {g, []api.Inst{{Op: 0}}, api.ErrForm}, {g, append(truth[:1:1], truth...), api.ErrForm}, {g, append(truth[:1:1], slices.Repeat([]api.Inst{{Op: api.OpNot}}, api.MaxItems)...), api.ErrForm},
		{graph.Graph{Nodes: g.Nodes}, truth, api.ErrForm}, {graph.Graph{Edges: g.Edges}, truth, api.ErrForm}, {graph.Graph{Nodes: g.Nodes, Edges: make([][]api.Edge, 2)}, truth, api.ErrForm}, {graph.Graph{}, []api.Inst{{Op: api.OpAnd}}, api.ErrForm},
	} {
		if l, e := check.Label(m, nil, x.g, x.prop); len(l) != 0 || e != x.e {
			t.Error(i, l, e)
		}
		if ok, e := check.Holds(m, nil, x.g, x.prop); ok || e != x.e {
			t.Error(i, ok, e)
		}
	}
	if l, e := check.Label(m, nil, graph.Graph{}, truth); len(l) != 0 || e != api.OK {
		t.Error(l, e)
	}
	if ok, e := check.Holds(m, nil, graph.Graph{}, truth); ok || e != api.ErrNone {
		t.Error(ok, e)
	}
	if ok, e := check.Holds(m, nil, g, append(truth[:1:1], slices.Repeat([]api.Inst{{Op: api.OpNot}}, api.MaxItems-1)...)); ok || e != api.OK {
		t.Error("as long as may be", ok, e)
	}
}

func TestNodesWithoutAnEdge(t *testing.T) {
	m := read(t, "stage p;")
	g := byHand([]int{1, 1}, [][]int{{1}, nil})
	for s, want := range map[string]string{"AX false": ".x", "EX true": "x.", "EG open p": "..", "AF not open p": "xx", "EF open p": "xx", "AG open p": "xx", "A [open p U not open p]": "xx", "A [open p U false]": "xx"} {
		if l, e := check.Label(m, nil, g, property(t, m, s)); e != api.OK || !slices.Equal(l, set(want)) {
			t.Error(s, l, e)
		}
	}
	odd := byHand([]int{1}, [][]int{{5, -1}})
	if l, e := check.Label(m, nil, odd, property(t, m, "EX true")); e != api.OK || l[0] {
		t.Error("edges to no node", l, e)
	}
}

// truths tells in which nodes a formula holds, as the words say, by going all ways of a graph of few nodes, each node of which leads somewhere.
func truths(m api.Model, consts []int64, g graph.Graph, l []api.Inst) []bool {
	items := make([]api.Item, len(l))
	for i := range l {
		items[i].Op = l[i].Op
	}
	kids := tree.Kids(items, len(l)-1)
	var sub [][]bool
	for _, k := range kids {
		sub = append(sub, truths(m, consts, g, l[tree.Start(items, k):k+1]))
	}
	out := make([]bool, len(g.Nodes))
	// until tells whether on some (or each) way b comes, and a holds in all nodes ahead
	until := func(each bool, a, b func(int) bool) func(i int) bool {
		var go_ func(i, steps int) bool
		go_ = func(i, steps int) bool {
			if b(i) {
				return true
			}
			if !a(i) || steps > len(g.Nodes) {
				return false
			}
			for _, x := range g.Edges[i] {
				if go_(x.To, steps+1) != each {
					return !each
				}
			}
			return each
		}
		return func(i int) bool { return go_(i, 0) }
	}
	always := func(int) bool { return true }
	for i := range out {
		of := func(k int) func(int) bool { return func(i int) bool { return sub[k][i] } }
		not := func(k int) func(int) bool { return func(i int) bool { return !sub[k][i] } }
		some := func(f func(int) bool) bool {
			return slices.ContainsFunc(g.Edges[i], func(x api.Edge) bool { return f(x.To) })
		}
		switch op := l[len(l)-1].Op; op {
		case api.OpNot:
			out[i] = !sub[0][i]
		case api.OpAnd:
			out[i] = sub[0][i] && sub[1][i]
		case api.OpOr:
			out[i] = sub[0][i] || sub[1][i]
		case api.OpImplies:
			out[i] = !sub[0][i] || sub[1][i]
		case api.OpAX:
			out[i] = !some(not(0))
		case api.OpEX:
			out[i] = some(of(0))
		case api.OpAF:
			out[i] = until(true, always, of(0))(i)
		case api.OpEF:
			out[i] = until(false, always, of(0))(i)
		case api.OpAG:
			out[i] = !until(false, always, not(0))(i)
		case api.OpEG:
			out[i] = !until(true, always, not(0))(i)
		case api.OpAU:
			out[i] = until(true, of(0), of(1))(i)
		case api.OpEU:
			out[i] = until(false, of(0), of(1))(i)
		default:
			out[i] = atoms.At(m, consts, g.Nodes[i], l[0])
		}
	}
	return out
}

func formula(rnd *rand.Rand, n int) []api.Inst {
	if n < 2 || rnd.Intn(6) == 0 {
		return []api.Inst{{Op: []int{api.OpOpen, api.OpDone, api.OpComplete, api.OpStuck, api.OpCan, api.OpLess}[rnd.Intn(6)], N: rnd.Intn(2), L: api.Val{Attr: 0}, R: api.Val{Attr: -1, Num: 5}}}
	}
	if n == 2 || rnd.Intn(2) == 0 {
		return append(formula(rnd, n-1), api.Inst{Op: []int{api.OpNot, api.OpAX, api.OpEX, api.OpAF, api.OpEF, api.OpAG, api.OpEG}[rnd.Intn(7)]})
	}
	k := 1 + rnd.Intn(n-2)
	return append(append(formula(rnd, k), formula(rnd, n-1-k)...), api.Inst{Op: []int{api.OpAnd, api.OpOr, api.OpImplies, api.OpAU, api.OpEU}[rnd.Intn(5)]})
}

func TestAsTheWordsSay(t *testing.T) {
	rnd := rand.New(rand.NewSource(35))
	m := read(t, "attr a = 1; user u; user v; role r = u v; stage s; stage t in s; event e by r in s sets a max 1; event g by r in t; guard s; guard t on e if a > 5; milestone k of t on g; milestone l of s if done k final; sod e, g;")
	consts := []int64{5}
	whole, e := graph.Explore(m, consts, 1000)
	if e != api.OK {
		t.Fatal(e)
	}
	for round := range 600 {
		g := whole
		if round%2 == 0 {
			n := 1 + rnd.Intn(5)
			open, next := make([]int, n), make([][]int, n)
			for i := range n {
				open[i] = rnd.Intn(4)
				for range 1 + rnd.Intn(2) {
					next[i] = append(next[i], rnd.Intn(n))
				}
			}
			g = byHand(open, next)
		}
		l := formula(rnd, 1+rnd.Intn(9))
		got, e := check.Label(m, consts, g, l)
		if e != api.OK || !slices.Equal(got, truths(m, consts, g, l)) {
			t.Fatal(l, got, truths(m, consts, g, l), e)
		}
	}
}

// concrete are all states that can be reached with numbers from a window, and what follows each.
func concrete(m api.Model, from, to int64) ([]api.State, [][]int) {
	states := []api.State{step.Begin(m)}
	numbers := map[string]int{state.Text(states[0]): 0}
	var next [][]int
	for at := 0; at < len(states); at++ {
		var l []int
		for _, v := range step.Moves(m, states[at]) {
			fill(v.Vals, 0, from, to, func() {
				s, _ := step.Do(m, states[at], v)
				n, ok := numbers[state.Text(s)]
				if !ok {
					n = len(states)
					numbers[state.Text(s)] = n
					states = append(states, s)
				}
				l = append(l, n)
			})
		}
		next = append(next, l)
	}
	return states, next
}

func fill(vals []int64, i int, from, to int64, tell func()) {
	if i == len(vals) {
		tell()
		return
	}
	for v := from; v <= to; v++ {
		vals[i] = v
		fill(vals, i+1, from, to, tell)
	}
}

func TestNodesAndTheirStates(t *testing.T) {
	rnd := rand.New(rand.NewSource(36))
	for _, text := range []string{
		"attr a = 1; user u; user v; role r = u v; stage s; stage t in s; event e by r in s sets a max 1; event g by r in t; guard s; guard t on e if a > 5; milestone k of t on g; milestone l of s if done k final; sod e, g;",
		"attr a = 3; attr b = 5; user u; role r = u; stage s; stage t; event e by r in s sets a max 1; event g by r in t sets b max 1; guard s; guard t on e if a < b; milestone k of t on g if b = a; milestone l of s if done k final;",
		"attr a = 5; user u; role r = u; stage s; stage t; event e by r in s sets a max 2; event g by r in t; guard s; guard t if a = 5; milestone k of t on g if a = 5 final; milestone l of s if a > 6;",
	} {
		m := read(t, text)
		consts := []int64{5}
		if l := model.Consts(m, nil); len(l) > 0 && l[0] != 5 || len(l) > 1 {
			consts = []int64{5, 6}
		}
		g, e := graph.Explore(m, consts, 10000)
		if e != api.OK {
			t.Fatal(e)
		}
		states, next := concrete(m, -4, 14)
		for range 150 {
			l := formula(rnd, 1+rnd.Intn(9))
			labels, _ := check.Label(m, consts, g, l)
			steps, own, _ := norm.Steps(l)
			known := make([][]bool, len(steps))
			for i, x := range steps {
				switch x.Op {
				case api.OpNot:
					known[i] = label.Not(known[x.A])
				case api.OpAnd:
					known[i] = label.And(known[x.A], known[x.B])
				case api.OpEX:
					known[i] = label.EX(next, known[x.A])
				case api.OpEU:
					known[i] = label.EU(next, known[x.A], known[x.B])
				case api.OpEG:
					known[i] = label.EG(next, known[x.A])
				default:
					for _, s := range states {
						known[i] = append(known[i], atoms.On(m, s, x.At))
					}
				}
			}
			for i, s := range states {
				if at := graph.Find(g, node.Of(m, consts, s)); labels[at] != known[own][i] {
					t.Fatal(text, l, state.Text(s), node.Text(g.Nodes[at]), labels[at])
				}
			}
		}
	}
}
