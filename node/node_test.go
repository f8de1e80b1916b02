package node_test

import (
	"math"
	"math/rand"
	"slices"
	"testing"

	"warder/api"
	"warder/model"
	"warder/node"
	"warder/state"
	"warder/step"
	"warder/zone"
)

const example = `attr a = 1; attr b = 5; user u; user v; role r = u v; stage s; stage t in s;
event e by r in s sets b, a max 1; event g by r in t max 2; guard s; guard t on e if a > 5;
milestone k of t on g; milestone l of s if done k final; sod e, g;`

func read(t *testing.T, s string) api.Model {
	t.Helper()
	m, f, _ := model.Read(s)
	if f.Err != api.OK {
		t.Fatal(s, f)
	}
	return m
}

func TestExample(t *testing.T) {
	n := node.Of(api.Model{}, nil, api.State{})
	if len(n.Zone.Classes) != 0 || len(n.Zone.Gaps) != 0 || node.Text(n) != " / 0 0 0 0 0" {
		t.Error(n)
	}
	// the whole's tenth example
	m := read(t, "attr a = 1; user u; user v; role r = u v; stage s; stage t in s; event e by r in s sets a max 1; event g by r in t; guard s; guard t on e if a > 5; milestone k of t on g; milestone l of s if done k final; sod e, g;")
	if g := node.Text(node.Begin(m, []int64{5})); g != "1:-1 1 0:0 / 0 1 0 2 0 0 2 0 0" {
		t.Error(g)
	}
}

func TestOfAndStatus(t *testing.T) {
	m := read(t, example)
	s := api.State{Vals: []int64{7, 5}, Open: 3, Done: 1, Did: []int{1, 2}, Count: []int{0, 1}}
	n := node.Of(m, []int64{5}, s)
	if g := node.Text(n); g != "2:0 1 1:-1 / 0 3 1 2 1 2 2 0 1" {
		t.Error(g)
	}
	if !zone.Same(n.Zone, zone.Of(s.Vals, []int64{5}, 2)) {
		t.Error(n.Zone)
	}
	s.Count[0] = 1
	if n := node.Of(m, []int64{9, 5, 9}, s); node.Text(n) != "2:0 0 1:-1 0 0:1 / 0 3 1 2 1 2 2 1 1" {
		t.Error(node.Text(n))
	}
	status := node.Status(n)
	if state.Text(status) != "0 3 1 2 1 2 2 0 1" {
		t.Error(state.Text(status))
	}
	n.Did[0], n.Count[0], status.Did[1], status.Count[1] = 90, 91, 92, 93
	if s.Did[0] != 1 || s.Count[0] != 1 || n.Did[1] != 2 || n.Count[1] != 1 {
		t.Error("shared")
	}
	if g := node.Begin(m, []int64{5}); !node.Same(g, node.Of(m, []int64{5}, step.Begin(m))) || node.Text(g) != "1:-1 3 2:0 / 0 1 0 2 0 0 2 0 0" {
		t.Error(node.Text(g))
	}
}

func TestCheckAndSample(t *testing.T) {
	m := read(t, example)
	consts := []int64{5}
	good := func() api.Node {
		return node.Of(m, consts, api.State{Vals: []int64{7, 5}, Open: 3, Done: 1, Did: []int{1, 2}, Count: []int{0, 1}})
	}
	if !node.Check(m, consts, good()) {
		t.Fatal("may be")
	}
	s, ok := node.Sample(m, consts, good())
	if !ok || state.Text(s) != "2 7 5 3 1 2 1 2 2 0 1" {
		t.Error(state.Text(s), ok)
	}
	n := good()
	s, _ = node.Sample(m, consts, n)
	s.Did[0], s.Count[0] = 9, 9
	if n.Did[0] != 1 || n.Count[0] != 0 {
		t.Error("shared")
	}
	for i, change := range []func(n *api.Node){
		func(n *api.Node) { n.Open = 4 }, func(n *api.Node) { n.Open = -1 }, func(n *api.Node) { n.Done = 4 }, func(n *api.Node) { n.Did[0] = 4 }, func(n *api.Node) { n.Did = n.Did[:1] }, func(n *api.Node) { n.Count = nil }, func(n *api.Node) { n.Count[0] = 2 }, func(n *api.Node) { n.Count[0] = -1 },
		func(n *api.Node) { n.Count[0] = 1; n.Zone.Gaps[0] = 1 }, func(n *api.Node) { n.Zone.Gaps[0] = 4 }, func(n *api.Node) { n.Zone.Gaps = nil }, func(n *api.Node) { n.Zone.Classes[0].Attrs = 0 }, func(n *api.Node) { n.Zone.Classes[1].Attrs = 5 }, func(n *api.Node) { n.Zone = api.Zone{} },
	} {
		n := good()
		change(&n)
		if node.Check(m, consts, n) {
			t.Error(i, n)
		}
		if s, ok := node.Sample(m, consts, n); ok || !state.Same(s, api.State{}) {
			t.Error(i, s)
		}
	}
	if node.Check(m, nil, good()) || node.Check(m, []int64{5, 6}, good()) || node.Check(api.Model{}, consts, good()) || !node.Check(m, []int64{8}, node.Of(m, []int64{8}, step.Begin(m))) {
		t.Error("other constants, or another model")
	}
	// a node that may be, and has no numbers of 64 bits
	edge := []int64{math.MaxInt64}
	n = node.Of(m, edge, api.State{Vals: []int64{math.MaxInt64, math.MaxInt64}, Did: []int{0, 0}, Count: []int{1, 2}})
	n.Zone = api.Zone{Classes: []api.Class{{Attrs: 1, Const: 0}, {Attrs: 2, Const: -1}}, Gaps: []int{0}}
	if s, ok := node.Sample(m, edge, n); !node.Check(m, edge, n) || ok || !state.Same(s, api.State{}) {
		t.Error(s, ok)
	}
	many := api.Model{Attrs: make([]string, 40)}
	if node.Check(many, nil, node.Of(many, nil, api.State{Vals: make([]int64, 40)})) {
		t.Error("more attributes than a zone may have")
	}
}

func TestSameAndText(t *testing.T) {
	base := func() api.Node {
		return api.Node{Zone: api.Zone{Classes: []api.Class{{Attrs: 1, Const: -1}, {Attrs: 2, Const: 0}}, Gaps: []int{3}}, Open: 1, Done: 2, Did: []int{3}, Count: []int{4}}
	}
	if g := node.Text(base()); g != "1:-1 3 2:0 / 0 1 2 1 3 1 4" {
		t.Error(g)
	}
	if !node.Same(base(), base()) || !node.Same(api.Node{}, api.Node{Did: []int{}, Count: []int{}, Zone: api.Zone{Gaps: []int{}}}) {
		t.Error("same")
	}
	texts := []string{node.Text(base())}
	for i, change := range []func(n *api.Node){
		func(n *api.Node) { n.Zone.Gaps[0] = 2 }, func(n *api.Node) { n.Zone.Classes[0].Attrs = 4 }, func(n *api.Node) { n.Zone.Classes[1].Const = 1 }, func(n *api.Node) { n.Zone.Gaps = nil }, func(n *api.Node) { n.Open = 0 }, func(n *api.Node) { n.Done = 0 }, func(n *api.Node) { n.Did[0] = 0 }, func(n *api.Node) { n.Did = append(n.Did, 1) }, func(n *api.Node) { n.Count[0] = 0 }, func(n *api.Node) { n.Count = nil },
	} {
		n := base()
		change(&n)
		if node.Same(n, base()) || node.Same(base(), n) || slices.Contains(texts, node.Text(n)) {
			t.Error(i)
		}
		texts = append(texts, node.Text(n))
	}
}

func TestTheNodeOfASample(t *testing.T) {
	m := read(t, example)
	rnd := rand.New(rand.NewSource(27))
	for range 3000 {
		consts := []int64{5, 9, 12}[:rnd.Intn(4)]
		s := api.State{Vals: []int64{int64(rnd.Intn(20)), int64(rnd.Intn(20))}, Open: rnd.Intn(4), Done: rnd.Intn(4), Did: []int{rnd.Intn(4), rnd.Intn(4)}, Count: []int{rnd.Intn(2), rnd.Intn(3)}}
		n := node.Of(m, consts, s)
		if !node.Check(m, consts, n) {
			t.Fatal(s)
		}
		sample, ok := node.Sample(m, consts, n)
		if !ok || !state.Check(m, sample) || !node.Same(node.Of(m, consts, sample), n) {
			t.Fatal(s, sample)
		}
	}
}
