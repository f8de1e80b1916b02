package run_test

import (
	"math"
	"math/rand"
	"testing"

	"warder/api"
	"warder/model"
	"warder/run"
	"warder/state"
	"warder/step"
)

const example = `attr a = 1; user u; user v; role r = u v; stage s; stage t in s;
event e by r in s sets a max 1; event g by r in t; event h by r in s; guard s; guard t on e if a > 5;
milestone k of t on g; milestone l of s if done k final; sod e, g;`

func read(t *testing.T, s string) api.Model {
	t.Helper()
	m, f, _ := model.Read(s)
	if f.Err != api.OK {
		t.Fatal(s, f)
	}
	return m
}

func move(event, user int, vals ...int64) api.Move {
	return api.Move{Event: event, User: user, Vals: vals}
}

func TestAllAndLast(t *testing.T) {
	m := read(t, example)
	e, g, h, idle := move(0, 0, 6), move(1, 1), move(2, 0), step.Idle()
	for i, x := range []struct {
		l    []api.Move
		made int
		err  api.Errno
	}{
		{nil, 0, api.OK}, {[]api.Move{e}, 1, api.OK}, {[]api.Move{e, g, idle, idle}, 4, api.OK}, {[]api.Move{h, h, e, h, g}, 5, api.OK},
		{[]api.Move{idle}, 0, api.ErrStep}, {[]api.Move{e, e, g}, 1, api.ErrStep}, {[]api.Move{h, move(0, 0), e}, 1, api.ErrForm}, {[]api.Move{e, g, idle, g}, 3, api.ErrStep}, {[]api.Move{move(9, 9)}, 0, api.ErrStep},
	} {
		all, err := run.All(m, x.l)
		if err != x.err || len(all) != x.made+1 || !state.Same(all[0], step.Begin(m)) {
			t.Error(i, len(all), err)
			continue
		}
		for k := range x.made {
			if s, err := step.Do(m, all[k], x.l[k]); err != api.OK || !state.Same(s, all[k+1]) {
				t.Error(i, k, s, all[k+1])
			}
		}
		last, made, err := run.Last(m, x.l)
		if err != x.err || made != x.made || !state.Same(last, all[made]) {
			t.Error(i, last, made, err)
		}
	}
}

func TestBadModels(t *testing.T) {
	// the begin is told, whatever it is; from a state that may not be no move may be made
	m := api.Model{Attrs: []string{"a"}}
	if all, e := run.All(m, nil); len(all) != 1 || e != api.OK {
		t.Error(all, e)
	}
	if all, e := run.All(m, []api.Move{step.Idle()}); len(all) != 1 || e != api.ErrState {
		t.Error(all, e)
	}
	if _, made, e := run.Last(m, []api.Move{step.Idle(), step.Idle()}); made != 0 || e != api.ErrState {
		t.Error(made, e)
	}
	if e := run.Loops(m, []api.Move{step.Idle()}, 0); e != api.ErrState {
		t.Error(e)
	}
}

func TestStatesAreOfTheirOwn(t *testing.T) {
	m := read(t, example)
	all, _ := run.All(m, []api.Move{move(0, 0, 6), move(1, 1), step.Idle()})
	texts := []string{state.Text(all[0]), state.Text(all[1]), state.Text(all[2]), state.Text(all[3])}
	for i := range all {
		all[i].Vals[0], all[i].Did[0], all[i].Count[0] = 90, 91, 92
		for k := i + 1; k < len(all); k++ {
			if state.Text(all[k]) != texts[k] {
				t.Error("shared", i, k)
			}
		}
	}
}

func TestLoops(t *testing.T) {
	m := read(t, example)
	e, g, h, idle := move(0, 0, 6), move(1, 1), move(2, 0), step.Idle()
	for i, x := range []struct {
		l   []api.Move
		at  int
		err api.Errno
	}{
		{[]api.Move{e, g, idle}, 2, api.OK}, {[]api.Move{e, g, idle, idle}, 2, api.OK}, {[]api.Move{e, g, idle, idle}, 3, api.OK}, {[]api.Move{e, g, idle}, 1, api.ErrLoop}, {[]api.Move{e, g, idle}, 0, api.ErrLoop}, {[]api.Move{h, h}, 0, api.ErrLoop}, {[]api.Move{h, h}, 1, api.OK}, {[]api.Move{h, move(2, 1), h}, 1, api.ErrLoop}, {[]api.Move{h, move(2, 1), h}, 2, api.OK},
		{[]api.Move{e, g, idle}, 3, api.ErrLoop}, {[]api.Move{e, g, idle}, -1, api.ErrLoop}, {nil, 0, api.ErrLoop}, {nil, -1, api.ErrLoop}, {[]api.Move{h}, math.MaxInt, api.ErrLoop}, {[]api.Move{h}, math.MinInt, api.ErrLoop},
		{[]api.Move{idle}, 0, api.ErrStep}, {[]api.Move{e, e}, -5, api.ErrStep}, {[]api.Move{h, move(0, 0)}, 9, api.ErrForm},
	} {
		if err := run.Loops(m, x.l, x.at); err != x.err {
			t.Error(i, err)
		}
	}
	if err := run.Loops(read(t, ""), []api.Move{idle, idle}, 0); err != api.OK {
		t.Error("a loop from the begin on", err)
	}
	// what is written may come back, the part in an event does not go
	m = read(t, "attr a = 1; user u; role r = u; stage s; guard s; event e by r in s sets a max 3;")
	if err := run.Loops(m, []api.Move{move(0, 0, 1), move(0, 0, 1)}, 1); err != api.ErrLoop {
		t.Error("a count is more", err)
	}
}

func TestARunGoesOn(t *testing.T) {
	m := read(t, example)
	rnd := rand.New(rand.NewSource(20))
	for range 300 {
		var l []api.Move
		s := step.Begin(m)
		for range rnd.Intn(7) {
			moves := step.Moves(m, s)
			v := moves[rnd.Intn(len(moves))]
			for i := range v.Vals {
				v.Vals[i] = int64(rnd.Intn(8))
			}
			l = append(l, v)
			s, _ = step.Do(m, s, v)
		}
		all, e := run.All(m, l)
		if e != api.OK || !state.Same(all[len(l)], s) {
			t.Fatal(l, e)
		}
		k := rnd.Intn(len(l) + 1)
		first, _ := run.All(m, l[:k])
		for i := range first {
			if !state.Same(first[i], all[i]) {
				t.Fatal(l, k)
			}
		}
	}
}
