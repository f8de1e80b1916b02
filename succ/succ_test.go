package succ_test

import (
	"math/rand"
	"slices"
	"strings"
	"testing"

	"warder/api"
	"warder/model"
	"warder/node"
	"warder/state"
	"warder/step"
	"warder/succ"
)

func read(t *testing.T, s string) api.Model {
	t.Helper()
	m, f, _ := model.Read(s)
	if f.Err != api.OK {
		t.Fatal(s, f)
	}
	return m
}

// texts are steps: the event, the user, and the node.
func texts(l []succ.Step) []string {
	var out []string
	for _, x := range l {
		out = append(out, strings.Repeat("e", x.Event+1)+" "+strings.Repeat("u", x.User+1)+" "+node.Text(x.Node))
	}
	return out
}

func TestExample(t *testing.T) {
	m := api.Model{}
	n := node.Begin(m, nil)
	l := succ.Next(m, nil, n)
	if len(l) != 1 || l[0].Event != -1 || l[0].User != -1 || !node.Same(l[0].Node, n) {
		t.Error(l)
	}
	m = read(t, "attr a = 1; user u; role r = u; stage s; event e by r in s;")
	n = node.Begin(m, []int64{4})
	if l := succ.Next(m, []int64{4}, n); len(l) != 1 || l[0].Event != -1 || l[0].User != -1 || !node.Same(l[0].Node, n) {
		t.Error(l)
	}
}

func TestNext(t *testing.T) {
	m := read(t, `attr a = 1; user u; user v; role r = u v; role q = v; stage s; stage t in s;
event e by r in s sets a max 1; event g by r in t; event h by q in s; guard s; guard t on e if a > 5; milestone k of t on g; milestone l of s if done k final; sod e, g;`)
	n := node.Begin(m, []int64{5})
	got := texts(succ.Next(m, []int64{5}, n))
	want := []string{
		"e u 1:-1 0 0:0 / 0 1 0 3 1 0 0 3 1 0 0", "e u 1:0 / 0 1 0 3 1 0 0 3 1 0 0", "e u 0:0 0 1:-1 / 0 3 0 3 1 0 0 3 1 0 0",
		"e uu 1:-1 0 0:0 / 0 1 0 3 2 0 0 3 1 0 0", "e uu 1:0 / 0 1 0 3 2 0 0 3 1 0 0", "e uu 0:0 0 1:-1 / 0 3 0 3 2 0 0 3 1 0 0",
		"eee uu 1:-1 1 0:0 / 0 1 0 3 0 0 2 3 0 0 0",
	}
	if !slices.Equal(got, want) {
		t.Error(strings.Join(got, "\n"))
	}
	open := succ.Next(m, []int64{5}, n)[2].Node
	if got := texts(succ.Next(m, []int64{5}, open)); !slices.Equal(got, []string{"ee uu 0:0 0 1:-1 / 0 0 3 3 1 2 0 3 1 0 0", "eee uu 0:0 0 1:-1 / 0 3 0 3 1 0 2 3 1 0 0"}) {
		t.Error(strings.Join(got, "\n"))
	}
	// with constants that are not told, conditions can't be asked, and do not hold
	for _, x := range succ.Next(m, nil, node.Begin(m, nil)) {
		if x.Node.Open != 1 {
			t.Error(node.Text(x.Node))
		}
	}
}

func TestNodesThatMayNotBe(t *testing.T) {
	m := read(t, "attr a = 1; user u; role r = u; stage s; guard s; event e by r in s sets a max 1;")
	good := node.Begin(m, nil)
	for i, change := range []func(n *api.Node){func(n *api.Node) { n.Open = 2 }, func(n *api.Node) { n.Did = nil }, func(n *api.Node) { n.Count = nil }, func(n *api.Node) { n.Zone = api.Zone{} }, func(n *api.Node) { n.Zone.Gaps = []int{1} }} {
		n := node.Of(m, nil, step.Begin(m))
		change(&n)
		if l := succ.Next(m, nil, n); len(l) != 0 {
			t.Error(i, l)
		}
		succ.Pass(m, nil, n, 0)
	}
	if l := succ.Next(m, []int64{4}, good); len(l) != 0 {
		t.Error("other constants", l)
	}
}

func TestPass(t *testing.T) {
	m := read(t, "attr a = 6; user u; role r = u; stage s; stage t in s; event e by r in s; guard s; guard t on e if a > 5; milestone k of t on e if a = 6; milestone l of s if done k final;")
	consts := []int64{5, 6}
	for _, x := range []struct {
		val   int64
		event int
		open  int
		done  int
	}{{6, -1, 1, 0}, {7, 0, 3, 0}, {7, -1, 1, 0}, {5, 0, 1, 0}, {6, 0, 0, 3}, {6, 1, 1, 0}} {
		n := node.Of(m, consts, api.State{Vals: []int64{x.val}, Did: []int{1}, Count: []int{0}})
		g := succ.Pass(m, consts, n, x.event)
		want := n
		want.Open, want.Done = x.open, x.done
		if !node.Same(g, want) {
			t.Error(x, node.Text(g))
		}
		g.Did[0], g.Count[0], g.Zone.Classes[0].Attrs = 9, 9, 9
		if n.Did[0] != 1 || n.Count[0] != 0 || n.Zone.Classes[0].Attrs == 9 {
			t.Error("shared")
		}
	}
	// of a node that may not be, too
	n := api.Node{Open: 4, Did: []int{7}}
	if g := succ.Pass(api.Model{}, nil, n, 3); !node.Same(g, n) {
		t.Error(g)
	}
}

func TestNewMemory(t *testing.T) {
	m := read(t, "attr a = 1; attr b = 2; user u; user v; role r = u v; stage s; guard s; event e by r in s sets a max 2; event f by r in s;")
	for _, text := range []string{"", "!"} {
		n := node.Begin(m, nil)
		if text != "" {
			n.Open = 0
		}
		kept := node.Text(n)
		l := succ.Next(m, nil, n)
		before := texts(l)
		for i := range l {
			x := l[i].Node
			x.Did[0], x.Count[0], x.Zone.Classes[0].Attrs = 90, 91, 92
			if len(x.Zone.Gaps) > 0 {
				x.Zone.Gaps[0] = 93
			}
			for k := i + 1; k < len(l); k++ {
				if texts(l[k : k+1])[0] != before[k] {
					t.Fatal("nodes share memory")
				}
			}
		}
		if node.Text(n) != kept {
			t.Error("shared")
		}
	}
}

var models = []string{
	"attr a = 1; user u; user v; role r = u v; stage s; stage t in s; event e by r in s sets a max 1; event g by r in t; guard s; guard t on e if a > 5; milestone k of t on g; milestone l of s if done k final; sod e, g;",
	"attr a = 1; attr b = 3; user u; role r = u; stage s; stage t; event e by r in s sets a max 2; event f by r in t sets b max 1; guard s; guard t if a < b; milestone k of s if a = 4 and b != a; milestone l of t on f if b <= 2;",
	"attr a = 0; attr b = 0; attr c = 7; user u; role r = u; stage s; stage t in s; event e by r in s sets a, b max 1; event f by r in t sets c max 1; guard s; guard t on e if a >= b or c = 3; milestone k of t on f if c > a final;",
	"user u; user v; user w; role r = u v; role q = w v; stage s; stage t; guard s; guard t on e; event e by r in s; event f by q in t max 2; milestone k of s on f; milestone l of t if done k; guard s on f; sod e, f;",
}

// With numbers from a window that is wide enough for the writes that are left, the nodes of the states behind all moves are just those that follow.
func TestWhatFollowsAreTheNodesOfTheStates(t *testing.T) {
	rnd := rand.New(rand.NewSource(28))
	asked := 0
	for _, text := range models {
		m := read(t, text)
		consts := model.Consts(m, nil)
		if rnd.Intn(2) == 0 {
			consts = append(consts, 11)
		}
		for range 40 {
			s := step.Begin(m)
			for range rnd.Intn(5) {
				l := step.Moves(m, s)
				v := l[rnd.Intn(len(l))]
				for i := range v.Vals {
					v.Vals[i] = int64(rnd.Intn(14) - 3)
				}
				s, _ = step.Do(m, s, v)
			}
			want := map[string]bool{}
			for _, v := range step.Moves(m, s) {
				fill(v.Vals, 0, func() {
					asked++
					next, e := step.Do(m, s, v)
					if e != api.OK {
						t.Fatal(e)
					}
					want[texts([]succ.Step{{Event: v.Event, User: v.User, Node: node.Of(m, consts, next)}})[0]] = true
				})
			}
			l := texts(succ.Next(m, consts, node.Of(m, consts, s)))
			for _, x := range l {
				if !want[x] {
					t.Fatal(text, state.Text(s), "no state has", x)
				}
			}
			if len(l) != len(want) {
				t.Fatal(text, state.Text(s), len(l), len(want))
			}
			// by events, then by users
			steps := succ.Next(m, consts, node.Of(m, consts, s))
			for i := 1; i < len(steps); i++ {
				if a, b := steps[i-1], steps[i]; a.Event > b.Event || a.Event == b.Event && a.User > b.User {
					t.Fatal(text, "order")
				}
			}
		}
	}
	if asked < 1000 {
		t.Error("too few moves", asked)
	}
}

func fill(vals []int64, i int, tell func()) {
	if i == len(vals) {
		tell()
		return
	}
	for v := int64(-22); v < 34; v++ {
		vals[i] = v
		fill(vals, i+1, tell)
	}
}
