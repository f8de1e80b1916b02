package bstep_test

import (
	"math"
	"math/rand"
	"slices"
	"testing"

	"warder/api"
	"warder/bstep"
	"warder/model"
	"warder/state"
)

func guard(n int) api.Sentry { return api.Sentry{N: n} }

func mile(n int) api.Sentry { return api.Sentry{Mile: true, N: n} }

var truth = []api.Inst{{Op: api.OpTrue}}

func read(t *testing.T, s string) api.Model {
	t.Helper()
	m, f, _ := model.Read(s)
	if f.Err != api.OK {
		t.Fatal(s, f)
	}
	return m
}

func TestExample(t *testing.T) {
	m := api.Model{Stages: []api.Stage{{Parent: -1}}, Guards: []api.Guard{{Stage: 0, Event: -1, If: truth}}, Order: []api.Sentry{guard(0)}}
	for _, event := range []int{-1, 0, 5} {
		if s := bstep.Pass(m, api.State{}, event); s.Open != 1 {
			t.Error(event, s)
		}
	}
}

// base: stage 1 in 0, stage 2 in 1, stage 3 in nothing; a guard and a milestone of each stage, of its number, on event 1, but those of stage 0 on none.
func base() api.Model {
	m := api.Model{Stages: []api.Stage{{Parent: -1}, {Parent: 0}, {Parent: 1}, {Parent: -1}}, Events: make([]api.Event, 2)}
	for i := range 4 {
		m.Guards = append(m.Guards, api.Guard{Stage: i, Event: 1, If: truth})
		m.Miles = append(m.Miles, api.Mile{Stage: i, Event: 1, If: truth})
	}
	m.Guards[0].Event, m.Miles[0].Event = -1, -1
	return m
}

func TestReady(t *testing.T) {
	m := base()
	for _, x := range []struct {
		x     api.Sentry
		open  int
		event int
		want  bool
	}{
		{guard(0), 0, -1, true}, {guard(0), 0, 0, true}, {guard(0), 0, 1, true}, {guard(0), 1, 1, false}, {guard(0), 14, 1, true},
		{guard(1), 1, 1, true}, {guard(1), 1, 0, false}, {guard(1), 1, -1, false}, {guard(1), 0, 1, false}, {guard(1), 3, 1, false}, {guard(1), 13, 1, true}, {guard(2), 1, 1, false}, {guard(2), 3, 1, true}, {guard(2), 2, 1, true}, {guard(3), 0, 1, true}, {guard(3), 8, 1, false}, {guard(3), 0, 0, false},
		{mile(0), 1, -1, true}, {mile(0), 1, 0, true}, {mile(0), 0, 0, false}, {mile(1), 2, 1, true}, {mile(1), 3, 1, true}, {mile(1), 3, 0, false}, {mile(1), 3, -1, false}, {mile(1), 1, 1, false}, {mile(3), 8, 1, true},
		{mile(4), 0, 0, false}, {mile(-1), 0, 0, false}, {guard(4), 0, 0, false}, {guard(-1), 0, 0, false}, {mile(4), 15, 0, false}, {mile(-1), 15, 0, false}, {guard(4), 0, -1, false}, {mile(4), 15, -1, false},
		{guard(4), 15, 1, false}, {guard(-1), 0, 1, false}, {mile(4), 15, 1, false}, {mile(-1), 15, 1, false}, {guard(math.MaxInt), 0, 1, false}, {mile(math.MinInt), 15, 1, false},
	} {
		s := api.State{Open: x.open}
		if g := bstep.Ready(m, s, x.x, x.event); g != x.want {
			t.Error(x, g)
		}
		if g := bstep.Fires(m, s, x.x, x.event); g != x.want {
			t.Error("fires", x, g)
		}
	}
	// stages, and parents, that there are not
	m = api.Model{Stages: []api.Stage{{Parent: 5}, {Parent: -2}}, Guards: []api.Guard{{Stage: 0, Event: -1, If: truth}, {Stage: 1, Event: -1, If: truth}, {Stage: 2, Event: -1, If: truth}, {Stage: -1, Event: -1, If: truth}}, Miles: []api.Mile{{Stage: 2, Event: -1, If: truth}, {Stage: -1, Event: -1, If: truth}}}
	for _, x := range []api.Sentry{guard(0), guard(1), guard(2), guard(3), mile(0), mile(1)} {
		for _, open := range []int{0, 1<<31 - 1, 1 << 5, 4} {
			if bstep.Ready(m, api.State{Open: open}, x, -1) || bstep.Fires(m, api.State{Open: open}, x, -1) {
				t.Error(x, open)
			}
		}
	}
}

func TestCond(t *testing.T) {
	m := base()
	m.Guards[2].If = []api.Inst{{Op: api.OpDone, N: 3}}
	m.Miles[1].If = []api.Inst{{Op: api.OpFalse}}
	c := bstep.Cond(m, guard(2))
	if !slices.Equal(c, m.Guards[2].If) || !slices.Equal(bstep.Cond(m, mile(1)), m.Miles[1].If) || !slices.Equal(bstep.Cond(m, guard(0)), truth) {
		t.Error(c)
	}
	c[0].Op = 99
	if m.Guards[2].If[0].Op != api.OpDone {
		t.Error("shared")
	}
	for _, x := range []api.Sentry{guard(4), guard(-1), mile(4), mile(-1)} {
		if len(bstep.Cond(m, x)) != 0 {
			t.Error(x)
		}
	}
}

func TestFiresByItsCondition(t *testing.T) {
	m := base()
	s := api.State{Vals: []int64{4}, Open: 1, Done: 8}
	for i, x := range []struct {
		l    []api.Inst
		want bool
	}{
		{truth, true}, {[]api.Inst{{Op: api.OpFalse}}, false}, {[]api.Inst{{Op: api.OpDone, N: 3}}, true}, {[]api.Inst{{Op: api.OpDone, N: 2}}, false}, {[]api.Inst{{Op: api.OpOpen, N: 0}}, true}, {[]api.Inst{{Op: api.OpEqual, R: api.Val{Attr: -1, Num: 4}}}, true}, {[]api.Inst{{Op: api.OpLess, R: api.Val{Attr: -1, Num: 4}}}, false},
		{nil, false}, {[]api.Inst{{Op: api.OpNot}}, false}, {[]api.Inst{{Op: api.OpComplete}, {Op: api.OpNot}}, false}, {[]api.Inst{{Op: api.OpEqual, L: api.Val{Attr: 1}, R: api.Val{Attr: 1}}}, false}, {[]api.Inst{{Op: api.OpTrue}, {Op: api.OpCan}, {Op: api.OpOr}}, false},
	} {
		m.Guards[1].If, m.Miles[0].If = x.l, x.l
		if bstep.Fires(m, s, guard(1), 1) != x.want || bstep.Fires(m, s, mile(0), 0) != x.want {
			t.Error(i)
		}
		if bstep.Fires(m, s, guard(1), 0) {
			t.Error(i, "on another event")
		}
		if !bstep.Ready(m, s, guard(1), 1) {
			t.Error(i, "ready")
		}
	}
}

func TestFire(t *testing.T) {
	m := base()
	m.Miles = append(m.Miles, api.Mile{Stage: 0, Event: -1, If: truth}) // number 4
	for _, x := range []struct {
		x                        api.Sentry
		open, done, open2, done2 int
	}{
		{guard(0), 0, 31, 1, 14}, {guard(2), 0, 31, 4, 27}, {guard(1), 2, 2, 2, 0}, {mile(0), 15, 0, 8, 1}, {mile(1), 15, 1, 9, 3}, {mile(2), 15, 4, 11, 4}, {mile(3), 15, 0, 7, 8}, {mile(4), 7, 1, 0, 17}, {mile(1), 0, 0, 0, 2},
		{guard(9), 6, 7, 6, 7}, {guard(-1), 6, 7, 6, 7}, {mile(9), 7, 6, 7, 6}, {mile(-1), 7, 6, 7, 6},
		{guard(9), 5, 6, 5, 6}, {guard(-1), 5, 6, 5, 6}, {mile(9), 5, 6, 5, 6}, {mile(-1), 5, 6, 5, 6},
	} {
		s := api.State{Vals: []int64{7}, Open: x.open, Done: x.done, Did: []int{1, 2}, Count: []int{3, 4}}
		g := bstep.Fire(m, s, x.x)
		want := api.State{Vals: []int64{7}, Open: x.open2, Done: x.done2, Did: []int{1, 2}, Count: []int{3, 4}}
		if !state.Same(g, want) {
			t.Error(x, g)
		}
		g.Vals[0], g.Did[0], g.Count[0] = 99, 99, 99
		if s.Vals[0] != 7 || s.Did[0] != 1 || s.Count[0] != 3 {
			t.Error("shared")
		}
	}
	m = api.Model{Stages: []api.Stage{{Parent: -1}}, Guards: []api.Guard{{Stage: 1}, {Stage: -1}}, Miles: []api.Mile{{Stage: 1}, {Stage: -1}, {Stage: 40}}}
	for _, x := range []api.Sentry{guard(0), guard(1), mile(0), mile(1), mile(2)} {
		if g := bstep.Fire(m, api.State{Open: 3, Done: 7}, x); g.Open != 3 || g.Done != 7 {
			t.Error("no such stage", x, g)
		}
	}
}

func TestPass(t *testing.T) {
	m := read(t, `attr a = 6; user u; role r = u; stage s; stage t in s; event e by r in s; event g by r in t;
guard s; guard t on e if a > 5; milestone k of t on g; milestone l of s if done k final;`)
	start := state.Start(m)
	s := bstep.Pass(m, start, -1)
	if s.Open != 1 || s.Done != 0 {
		t.Fatal(s)
	}
	if g := bstep.Pass(m, s, 1); g.Open != 1 {
		t.Error("an event of another one", g)
	}
	s = bstep.Pass(m, s, 0)
	if s.Open != 3 {
		t.Fatal(s)
	}
	// k closes t, then l closes s
	if g := bstep.Pass(m, s, 1); g.Open != 0 || g.Done != 3 {
		t.Error(g)
	}
	// a stage that opens again takes its milestone back
	again := api.State{Vals: []int64{6}, Open: 1, Done: 1, Did: []int{0, 0}, Count: []int{0, 0}}
	m.Miles[1].If = []api.Inst{{Op: api.OpFalse}}
	if g := bstep.Pass(m, again, 0); g.Open != 3 || g.Done != 0 {
		t.Error(g)
	}
	again.Vals[0] = 5
	if g := bstep.Pass(m, again, 0); g.Open != 1 || g.Done != 1 {
		t.Error(g)
	}
	g := bstep.Pass(m, again, 0)
	g.Vals[0], g.Did[0], g.Count[0] = 99, 99, 99
	if again.Vals[0] != 5 || again.Did[0] != 0 || again.Count[0] != 0 {
		t.Error("shared")
	}
	// the order is the model's, each one is asked once, and such as there are not do nothing
	m = base()
	for i := range m.Guards {
		m.Guards[i].Event, m.Miles[i].Event = -1, -1
	}
	for _, x := range []struct {
		order      []api.Sentry
		open, done int
	}{
		{nil, 0, 0}, {[]api.Sentry{guard(1), guard(0)}, 1, 0}, {[]api.Sentry{guard(0), guard(1), guard(2), guard(3)}, 15, 0}, {[]api.Sentry{guard(0), guard(1), mile(0)}, 0, 1}, {[]api.Sentry{guard(0), mile(0), guard(0), guard(1)}, 3, 0}, {[]api.Sentry{mile(0), guard(9), mile(-3), guard(3)}, 8, 0}, {[]api.Sentry{guard(3), mile(3)}, 0, 8},
	} {
		m.Order = x.order
		if g := bstep.Pass(m, api.State{}, -1); g.Open != x.open || g.Done != x.done {
			t.Error(x, g)
		}
	}
}

func TestWhatStays(t *testing.T) {
	rnd := rand.New(rand.NewSource(18))
	for range 3000 {
		m := api.Model{Events: make([]api.Event, 2)}
		for i := range 1 + rnd.Intn(5) {
			m.Stages = append(m.Stages, api.Stage{Parent: rnd.Intn(i+1) - 1})
		}
		cond := func() []api.Inst {
			return []api.Inst{{Op: []int{api.OpTrue, api.OpOpen, api.OpDone}[rnd.Intn(3)], N: rnd.Intn(3)}}
		}
		for range rnd.Intn(6) {
			m.Guards = append(m.Guards, api.Guard{Stage: rnd.Intn(len(m.Stages)), Event: rnd.Intn(3) - 1, If: cond()})
		}
		for range rnd.Intn(5) {
			m.Miles = append(m.Miles, api.Mile{Stage: rnd.Intn(len(m.Stages)), Event: rnd.Intn(3) - 1, If: cond()})
		}
		for range rnd.Intn(12) {
			m.Order = append(m.Order, api.Sentry{Mile: rnd.Intn(2) == 0, N: rnd.Intn(6)})
		}
		s := api.State{Vals: []int64{3}, Open: rnd.Intn(1 << len(m.Stages)), Done: rnd.Intn(1 << len(m.Miles)), Did: []int{1, 2}, Count: []int{4, 5}}
		event := rnd.Intn(3) - 1
		g := bstep.Pass(m, s, event)
		if g.Vals[0] != 3 || !slices.Equal(g.Did, s.Did) || !slices.Equal(g.Count, s.Count) {
			t.Fatal(g)
		}
		if state.Sound(m, s) && !state.Sound(m, g) {
			t.Fatal(m, s, g)
		}
		// one behind the other
		one := s
		for _, x := range m.Order {
			if bstep.Fires(m, one, x, event) {
				one = bstep.Fire(m, one, x)
			}
		}
		if !state.Same(one, g) {
			t.Fatal(m, s, g, one)
		}
	}
}
