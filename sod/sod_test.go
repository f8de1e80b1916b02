package sod_test

import (
	"math"
	"math/rand"
	"reflect"
	"slices"
	"strings"
	"testing"

	"warder/api"
	"warder/graph"
	"warder/model"
	"warder/replay"
	"warder/rights"
	"warder/sod"
	"warder/state"
	"warder/step"
	"warder/trace"
)

const alone = `attr a = 1; user u; role r = u; stage s; stage t in s; event e by r in s sets a max 1; event g by r in t; guard s; guard t on e if a > 5; milestone k of t on g; milestone l of s if done k final; sod e, g;`

func read(t *testing.T, s string) api.Model {
	t.Helper()
	m, f, _ := model.Read(s)
	if f.Err != api.OK {
		t.Fatal(s, f)
	}
	return m
}

func TestDeadlock(t *testing.T) {
	m := read(t, alone)
	x, ok, e := sod.Deadlock(m, 1000)
	if s, _ := trace.Text(m, x); !ok || e != api.OK || s != "e by u sets a = 6;\n" || x.Loop != -1 {
		t.Error(x, ok, e)
	}
	all, err := replay.Moves(m, x)
	if err != api.OK || !rights.Stuck(m, all[len(all)-1]) {
		t.Error(err)
	}
	for i, text := range []string{"", "stage s; guard s;", strings.Replace(alone, "sod e, g;", "", 1), strings.Replace(strings.Replace(alone, "user u;", "user u; user v;", 1), "r = u;", "r = u v;", 1), strings.Replace(alone, "guard t on e if a > 5;", "", 1)} {
		if x, ok, e := sod.Deadlock(read(t, text), 1000); ok || e != api.OK || !reflect.DeepEqual(x, trace.Trace{}) {
			t.Error(i, x, ok, e)
		}
	}
	// the shortest way, of several the first one
	long := read(t, "user u; user v; role r = u; role q = v; stage s; guard s; event e by r in s max 1; event f by q in s max 2; event g by r in s; event h by r in s max 1; sod e, g; sod h, g;")
	x, ok, e = sod.Deadlock(long, 1000)
	if s, _ := trace.Text(long, x); !ok || e != api.OK || s != "e by u;\nf by v;\nf by v;\nh by u;\n" {
		t.Error(s, ok, e)
	}
}

func TestErrors(t *testing.T) {
	m := read(t, alone)
	g, _ := graph.Explore(m, []int64{5}, 1000)
	n := len(g.Nodes)
	for budget, want := range map[int]api.Errno{n: api.OK, n - 1: api.ErrBudget, 0: api.ErrBudget, -1: api.ErrBudget, math.MinInt: api.ErrBudget, math.MaxInt: api.OK} {
		x, ok, e := sod.Deadlock(m, budget)
		if e != want || ok != (want == api.OK) || want != api.OK && !reflect.DeepEqual(x, trace.Trace{}) {
			t.Error(budget, x, ok, e)
		}
	}
	bad := read(t, alone)
	bad.Order = nil
	for _, budget := range []int{0, 1000} {
		if x, ok, e := sod.Deadlock(bad, budget); ok || e != api.ErrForm || !reflect.DeepEqual(x, trace.Trace{}) {
			t.Error(x, ok, e)
		}
	}
	// only a number beyond those of 64 bits leads there
	far := read(t, strings.Replace(alone, "a > 5", "a > 9223372036854775807", 1))
	if x, ok, e := sod.Deadlock(far, 1000); !ok || e != api.ErrRange || !reflect.DeepEqual(x, trace.Trace{}) {
		t.Error(x, ok, e)
	}
	near := read(t, strings.Replace(alone, "a > 5", "a > 9223372036854775806", 1))
	if _, ok, e := sod.Deadlock(near, 1000); !ok || e != api.OK {
		t.Error(ok, e)
	}
}

func TestKept(t *testing.T) {
	m := read(t, "user u; user v; role r = u v; role q = v; stage s; stage t; guard s; event e by r in s; event f by q in s; event g by r in t; event h by r in s max 1; sod e, f; sod e, h; sod e, g;")
	for i, x := range []struct {
		did   []int
		count []int
		want  [][2]int
	}{
		{[]int{0, 0, 0, 0}, []int{0, 0, 0, 0}, nil}, {[]int{3, 0, 0, 0}, []int{0, 0, 0, 0}, [][2]int{{1, 1}, {3, 0}, {3, 1}}}, {[]int{1, 0, 0, 0}, []int{0, 0, 0, 1}, nil}, {[]int{0, 2, 0, 1}, []int{0, 0, 0, 0}, [][2]int{{0, 0}, {0, 1}}}, {nil, nil, nil},
	} {
		if g := sod.Kept(m, api.State{Open: 1, Did: x.did, Count: x.count}); !slices.Equal(g, x.want) {
			t.Error(i, g)
		}
	}
	if g := sod.Kept(m, step.Begin(m)); len(g) != 0 {
		t.Error(g)
	}
	// a Did counts, of an event that the model does not have, too
	m.Sods = []api.Sod{{A: 0, B: 4}, {A: 5, B: 1}}
	if g := sod.Kept(m, api.State{Open: 1, Did: []int{0, 0, 0, 0, 1, 3}}); !slices.Equal(g, [][2]int{{0, 0}, {1, 1}}) {
		t.Error(g)
	}
	if len(sod.Kept(api.Model{}, api.State{})) != 0 {
		t.Error("of nothing")
	}
}

func TestPairs(t *testing.T) {
	m := api.Model{Sods: []api.Sod{{A: 2, B: 1}, {A: 0, B: 5}, {A: 1, B: 2}, {A: 3, B: 0}, {A: 1, B: 2}, {A: 4, B: 4}, {A: -7, B: 99}, {A: 0, B: 3}, {A: 1, B: 0}}}
	if g := sod.Pairs(m); !slices.Equal(g, [][2]int{{-7, 99}, {0, 1}, {0, 3}, {0, 5}, {1, 2}, {4, 4}}) {
		t.Error(g)
	}
	if m.Sods[0].A != 2 {
		t.Error("what is handed in is changed")
	}
	if len(sod.Pairs(api.Model{})) != 0 {
		t.Error("of nothing")
	}
}

func TestLoose(t *testing.T) {
	m := read(t, "attr a = 1; user u; role r = u; stage s; guard s if a < 3; event e by r in s sets a max 1; event f by r in s; event g by r in s; milestone k of s; sod e, f; sod f, g; sod g, e;")
	for i, x := range []struct {
		sods []int
		want []api.Sod
	}{
		{nil, []api.Sod{{A: 0, B: 1}, {A: 1, B: 2}, {A: 2, B: 0}}}, {[]int{1}, []api.Sod{{A: 0, B: 1}, {A: 2, B: 0}}}, {[]int{2, 0, 2}, []api.Sod{{A: 1, B: 2}}}, {[]int{0, 1, 2}, nil}, {[]int{-1, 3, math.MaxInt, math.MinInt}, []api.Sod{{A: 0, B: 1}, {A: 1, B: 2}, {A: 2, B: 0}}},
	} {
		g := sod.Loose(m, x.sods)
		if !slices.Equal(g.Sods, x.want) || !model.Check(g) {
			t.Error(i, g.Sods)
		}
		g.Sods = m.Sods
		if !reflect.DeepEqual(g, m) {
			t.Error(i, "something else has gone")
		}
	}
	// all of it is new memory
	g := sod.Loose(m, nil)
	g.Attrs[0], g.Inits[0], g.Users[0], g.Roles[0].Users, g.Stages[0].Name = "x", 9, "x", 9, "x"
	g.Events[0].Sets[0], g.Events[0].Name, g.Guards[0].If[0].Op, g.Guards[0].Stage, g.Miles[0].If[0].Op, g.Miles[0].Name, g.Sods[0].A, g.Order[0].N = 9, "x", 9, 9, 9, "x", 9, 9
	if !reflect.DeepEqual(m, read(t, "attr a = 1; user u; role r = u; stage s; guard s if a < 3; event e by r in s sets a max 1; event f by r in s; event g by r in s; milestone k of s; sod e, f; sod f, g; sod g, e;")) {
		t.Error("shared")
	}
	if g := sod.Loose(api.Model{}, []int{0}); !reflect.DeepEqual(g, api.Model{}) {
		t.Error(g)
	}
	// without the sod there is no deadlock
	if _, ok, e := sod.Deadlock(sod.Loose(read(t, alone), []int{0}), 1000); ok || e != api.OK {
		t.Error(ok, e)
	}
}

// stuckSomewhere goes through all states that can be reached with numbers from a window.
func stuckSomewhere(m api.Model) bool {
	states := []api.State{step.Begin(m)}
	seen := map[string]bool{state.Text(states[0]): true}
	for at := 0; at < len(states); at++ {
		if rights.Stuck(m, states[at]) {
			return true
		}
		for _, v := range step.Moves(m, states[at]) {
			for n := int64(-6); n < 16; n++ {
				for i := range v.Vals {
					v.Vals[i] = n
				}
				s, _ := step.Do(m, states[at], v)
				if text := state.Text(s); !seen[text] {
					seen[text] = true
					states = append(states, s)
				}
			}
		}
	}
	return false
}

func TestJustIfAStateIsStuck(t *testing.T) {
	rnd := rand.New(rand.NewSource(44))
	found := [2]int{}
	for range 300 {
		roles := []string{"r = u; role q = v", "r = u v; role q = u", "r = u; role q = u v", "r = u; role q = u"}[rnd.Intn(4)]
		text := "attr a = 1; user u; user v; role " + roles + "; stage s; stage t in s; guard s; guard t on e if a > 5; guard t on f; milestone k of t on g; milestone l of s if done k" + []string{"", " final"}[rnd.Intn(2)] + ";"
		for _, e := range []string{"e", "f", "g"} {
			text += " event " + e + " by " + []string{"r", "q"}[rnd.Intn(2)] + " in " + []string{"s", "t"}[rnd.Intn(2)]
			if e == "e" {
				text += " sets a max 1"
			} else if rnd.Intn(2) == 0 {
				text += " max 1"
			}
			text += ";"
		}
		for range rnd.Intn(4) {
			text += []string{" sod e, f;", " sod f, g;", " sod g, e;"}[rnd.Intn(3)]
		}
		m := read(t, text)
		x, ok, e := sod.Deadlock(m, 100000)
		if e != api.OK || ok != stuckSomewhere(m) {
			t.Fatal(text, ok, e)
		}
		if !ok {
			found[0]++
			continue
		}
		found[1]++
		all, e := replay.Moves(m, x)
		if e != api.OK || !rights.Stuck(m, all[len(all)-1]) || len(sod.Kept(m, all[len(all)-1])) == 0 {
			t.Fatal(text, x, e)
		}
		for _, s := range all[:len(all)-1] {
			if rights.Stuck(m, s) {
				t.Fatal(text, "not the shortest")
			}
		}
	}
	if found[0] < 30 || found[1] < 30 {
		t.Error("too few of a kind", found)
	}
}
