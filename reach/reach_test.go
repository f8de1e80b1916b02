package reach_test

import (
	"math"
	"math/rand"
	"reflect"
	"testing"

	"warder/api"
	"warder/atoms"
	"warder/graph"
	"warder/model"
	"warder/reach"
	"warder/rights"
	"warder/state"
	"warder/step"
	"warder/verify"
)

const example = `attr a = 1; user u; user v; role r = u v; stage s; stage t in s; stage w; event e by r in s sets a max 1; event g by r in t; event h by r in w; guard s; guard t on e if a > 5; milestone k of t on g; milestone l of s if done k final; milestone n of w; sod e, g;`

func read(t *testing.T, s string) api.Model {
	t.Helper()
	m, f, _ := model.Read(s)
	if f.Err != api.OK {
		t.Fatal(s, f)
	}
	return m
}

func TestAsk(t *testing.T) {
	if r, e := reach.Ask(api.Model{}, 1); e != api.OK || r != (reach.Report{Nodes: 1, Edges: 1, Ends: 1}) {
		t.Error(r, e)
	}
	for i, x := range []struct {
		text string
		want reach.Report
	}{
		// e by u or v to a < 5, a = 5 (both dead ends), a > 5; from there g by the other one, and the end
		{example, reach.Report{Nodes: 9, Edges: 6 + 4 + 2 + 2, Stages: 3, Miles: 3, Events: 3, Complete: true, Ends: 4}},
		{"stage s; guard s; milestone k of s; stage t; milestone l of t;", reach.Report{Nodes: 1, Edges: 1, Miles: 1, Ends: 1, Must: 1}},
		{"user u; role r = u; stage s; guard s; event e by r in s; milestone k of s on e final; event f by r in s; sod e, f;", reach.Report{Nodes: 3, Edges: 2 + 1 + 1, Stages: 1, Miles: 1, Events: 3, Complete: true}},
		{"user u; role r = u; stage s; guard s; event e by r in s max 1; milestone k of s on e final;", reach.Report{Nodes: 2, Edges: 2, Stages: 1, Miles: 1, Events: 1, Complete: true, Must: 1}},
		{"user u; role r = u; stage s; guard s; event e by r in s max 1; event f by r in s; sod e, f; milestone k of s on f;", reach.Report{Nodes: 3, Edges: 4, Stages: 1, Miles: 1, Events: 3, Stuck: true, Ends: 2}},
	} {
		if r, e := reach.Ask(read(t, x.text), 1000); e != api.OK || r != x.want {
			t.Errorf("%d: %+v %v, not %+v", i, r, e, x.want)
		}
	}
}

func TestErrors(t *testing.T) {
	m := read(t, example)
	for budget, want := range map[int]api.Errno{9: api.OK, 8: api.ErrBudget, 0: api.ErrBudget, math.MinInt: api.ErrBudget, math.MaxInt: api.OK} {
		if r, e := reach.Ask(m, budget); e != want || (r != reach.Report{}) != (want == api.OK) {
			t.Error(budget, r, e)
		}
	}
	m.Order = nil
	if r, e := reach.Ask(m, 0); e != api.ErrForm || r != (reach.Report{}) {
		t.Error(r, e)
	}
}

func TestNever(t *testing.T) {
	m := read(t, example)
	r, _ := reach.Ask(m, 1000)
	if s, k, e := reach.Never(m, r); s != 4 || k != 4 || e != 4 {
		t.Error(s, k, e)
	}
	if s, k, e := reach.Never(m, reach.Report{}); s != 7 || k != 7 || e != 7 {
		t.Error(s, k, e)
	}
	if s, k, e := reach.Never(m, reach.Report{Stages: -1, Miles: 1 << 40, Events: 1<<40 + 2}); s != 0 || k != 7 || e != 5 {
		t.Error(s, k, e)
	}
}

func TestText(t *testing.T) {
	m := read(t, example)
	r, _ := reach.Ask(m, 1000)
	want := "nodes 9\nedges 14\nends 4\ncomplete yes\nstuck no\nstage s yes\nstage t yes\nstage w no\nmilestone k yes\nmilestone l yes\nmilestone n no\nevent e yes\nevent g yes\nevent h no\n"
	if g := reach.Text(m, r); g != want {
		t.Error(g)
	}
	r = reach.Report{Nodes: -1, Edges: math.MaxInt, Stuck: true, Ends: 3, Miles: 5, Must: 6, Events: 4, Stages: -1}
	want = "nodes -1\nedges 9223372036854775807\nends 3\ncomplete no\nstuck yes\nstage s yes\nstage t yes\nstage w yes\nmilestone k yes\nmilestone l no\nmilestone n yes must\nevent e no\nevent g no\nevent h yes\n"
	if g := reach.Text(m, r); g != want {
		t.Error(g)
	}
	if g := reach.Text(api.Model{}, reach.Report{}); g != "nodes 0\nedges 0\nends 0\ncomplete no\nstuck no\n" {
		t.Error(g)
	}
}

func TestAt(t *testing.T) {
	m := read(t, example)
	consts := []int64{5}
	g, _ := graph.Explore(m, consts, 1000)
	for x, want := range map[api.Inst]bool{{Op: api.OpOpen, N: 1}: true, {Op: api.OpOpen, N: 2}: false, {Op: api.OpDone, N: 1}: true, {Op: api.OpComplete}: true, {Op: api.OpStuck}: false, {Op: api.OpCan, N: 2}: false, {Op: api.OpDid, N: 1, User: 1}: true, {Op: api.OpTrue}: true, {Op: api.OpFalse}: false, {Op: api.OpNot}: false, {Op: api.OpEqual, L: api.Val{Attr: 0}, R: api.Val{Attr: -1, Num: 5}}: true} {
		if got := reach.At(m, consts, g, x); got != want {
			t.Error(x, got)
		}
	}
	if reach.At(m, consts, graph.Graph{}, api.Inst{Op: api.OpTrue}) || !reach.At(m, consts, graph.Graph{Nodes: g.Nodes[:1]}, api.Inst{Op: api.OpTrue}) {
		t.Error("nodes alone count")
	}
}

var models = []string{
	example, "",
	"attr a = 1; attr b = 3; user u; role r = u; stage s; stage t; event e by r in s sets a max 2; event f by r in t sets b max 1; guard s; guard t if a < b; milestone k of s if a = 4 and b != a; milestone l of t on f if b <= 2;",
	"user u; user v; user w; role r = u v; role q = w v; stage s; stage t; guard s; guard t on e; event e by r in s; event f by q in t max 2; milestone k of s on f; milestone l of t if done k; guard s on f; sod e, f;",
	"user u; role r = u; stage s; guard s; event e by r in s max 1; event f by r in s; sod e, f; milestone k of s on f;",
}

func TestReportsAndProperties(t *testing.T) {
	for _, text := range models {
		m := read(t, text)
		r, e := reach.Ask(m, 100000)
		if e != api.OK {
			t.Fatal(e)
		}
		holds := func(prop string) bool { return verify.Verify(text, prop, 100000).Kind == verify.Holds }
		for i, s := range m.Stages {
			if holds("EF open "+s.Name) != (r.Stages>>i&1 == 1) {
				t.Error(text, s.Name)
			}
		}
		for i, k := range m.Miles {
			if holds("EF done "+k.Name) != (r.Miles>>i&1 == 1) || holds("AF done "+k.Name) != (r.Must>>i&1 == 1) {
				t.Error(text, k.Name)
			}
		}
		for i, e := range m.Events {
			if holds("EF can "+e.Name) != (r.Events>>i&1 == 1) {
				t.Error(text, e.Name)
			}
		}
		if holds("EF complete") != r.Complete || holds("EF stuck") != r.Stuck {
			t.Error(text, r)
		}
	}
}

func TestWhatIsInAStateCanComeToBe(t *testing.T) {
	rnd := rand.New(rand.NewSource(45))
	for _, text := range models {
		m := read(t, text)
		r, _ := reach.Ask(m, 100000)
		var seen reach.Report
		for range 3000 {
			s := step.Begin(m)
			for range 8 {
				seen.Stages |= s.Open
				seen.Miles |= s.Done
				for i := range m.Events {
					if atoms.On(m, s, api.Inst{Op: api.OpCan, N: i}) {
						seen.Events |= 1 << i
					}
				}
				seen.Complete = seen.Complete || rights.Complete(m, s)
				seen.Stuck = seen.Stuck || rights.Stuck(m, s)
				l := step.Moves(m, s)
				v := l[rnd.Intn(len(l))]
				for i := range v.Vals {
					v.Vals[i] = int64(rnd.Intn(14) - 4)
				}
				s, _ = step.Do(m, s, v)
				if !state.Sound(m, s) {
					t.Fatal(state.Text(s))
				}
			}
		}
		seen.Nodes, seen.Edges, seen.Ends, seen.Must = r.Nodes, r.Edges, r.Ends, r.Must
		if !reflect.DeepEqual(seen, r) {
			t.Error(text, seen, r)
		}
	}
}
