package replay_test

import (
	"math/rand"
	"slices"
	"strings"
	"testing"

	"warder/api"
	"warder/model"
	"warder/replay"
	"warder/run"
	"warder/state"
	"warder/step"
	"warder/trace"
)

const example = `attr a = 1; user u; user v; role r = u v; stage s; stage t in s;
event e by r in s sets a max 1; event g by r in t; guard s; guard t on e if a > 5;
milestone k of t on g; milestone l of s if done k final; sod e, g;`

func read(t *testing.T, s string) api.Model {
	t.Helper()
	m, f, _ := model.Read(s)
	if f.Err != api.OK {
		t.Fatal(s, f)
	}
	return m
}

func property(t *testing.T, m api.Model, s string) []api.Inst {
	t.Helper()
	l, f, _ := model.Property(m, s)
	if f.Err != api.OK {
		t.Fatal(s, f)
	}
	return l
}

func move(event, user int, vals ...int64) api.Move {
	return api.Move{Event: event, User: user, Vals: vals}
}

func of(loop int, l ...api.Move) trace.Trace { return trace.Trace{Moves: l, Loop: loop} }

func TestMoves(t *testing.T) {
	m := read(t, example)
	e, g, idle := move(0, 0, 6), move(1, 1), step.Idle()
	for i, x := range []struct {
		t trace.Trace
		e api.Errno
	}{
		{of(-1), api.OK}, {of(-1, e), api.OK}, {of(-1, e, g, idle), api.OK}, {of(2, e, g, idle), api.OK}, {of(2, e, g, idle, idle), api.OK}, {of(3, e, g, idle, idle), api.OK},
		{of(0, e, g, idle), api.ErrLoop}, {of(1, e, g, idle), api.ErrLoop}, {of(3, e, g, idle), api.ErrLoop}, {of(-2, e), api.ErrLoop}, {of(0), api.ErrLoop}, {of(0, e), api.ErrLoop}, {trace.Trace{}, api.ErrLoop},
		{of(-1, g), api.ErrStep}, {of(0, idle), api.ErrStep}, {of(-1, e, move(0, 0)), api.ErrStep}, {of(9, move(0, 0)), api.ErrForm},
	} {
		l, err := replay.Moves(m, x.t)
		if err != x.e || err != api.OK && len(l) != 0 || err == api.OK && len(l) != len(x.t.Moves)+1 {
			t.Error(i, len(l), err)
		}
		if all, _ := run.All(m, x.t.Moves); err == api.OK && !slices.EqualFunc(l, all, state.Same) {
			t.Error(i)
		}
	}
	for _, text := range []string{"", "stage s;", example} {
		if l, e := replay.Moves(read(t, text), of(-1)); len(l) != 1 || e != api.OK {
			t.Error("the empty trace", e)
		}
	}
}

func TestText(t *testing.T) {
	at := func(e api.Errno, line, col int) api.Fault {
		return api.Fault{Err: e, At: api.Pos{Line: line, Col: col}}
	}
	for i, x := range []struct {
		m, t string
		n    int
		f    api.Fault
		part int
	}{
		{example, "", 0, api.Fault{}, 0}, {example, "e by u sets a = 6; g by v; loop; idle;", 3, api.Fault{}, 0}, {example, "e by u sets a = 6; g by v;", 2, api.Fault{}, 0}, {"", "idle;", 1, api.Fault{}, 0},
		{"user", "]", 0, at(api.ErrToken, 1, 5), 1}, {"user u; user u;", "]", 0, at(api.ErrTwice, 1, 9), 1}, {"guard s;", "", 0, at(api.ErrName, 1, 1), 1},
		{example, "]", 0, at(api.ErrToken, 1, 1), 2}, {example, "e by u;", 0, at(api.ErrForm, 1, 1), 2}, {example, "x by u;", 0, at(api.ErrName, 1, 1), 2}, {example, "loop;", 0, at(api.ErrLoop, 1, 6), 2},
		{example, "g by u;", 0, api.Fault{Err: api.ErrStep}, 3}, {example, "e by u sets a = 6; g by u;", 0, api.Fault{Err: api.ErrStep}, 3}, {example, "e by u sets a = 6; loop; g by v; idle;", 0, api.Fault{Err: api.ErrLoop}, 3}, {example, "idle;", 0, api.Fault{Err: api.ErrStep}, 3},
	} {
		if n, f, part := replay.Text(x.m, x.t); n != x.n || f != x.f || part != x.part {
			t.Error(i, n, f, part)
		}
	}
}

func TestHolds(t *testing.T) {
	m := read(t, example)
	s, _ := run.All(m, []api.Move{move(0, 0, 6)})
	for text, want := range map[string]bool{
		"true": true, "false": false, "open t": true, "not open t": false, "open t and a > 5": true, "open t and a > 6": false, "a > 6 and open t": false, "a > 6 or done k": false, "a > 6 or open s": true, "open s or a > 6": true, "open s implies a = 6": true, "open s implies a = 7": false, "done k implies false": true, "done k implies true": true,
		"did u e": true, "did v e": false, "can g": true, "can e": false, "complete": false, "stuck": false, "not (complete or stuck) and (open t implies did u e)": true,
	} {
		if g, e := replay.Holds(m, property(t, m, text), s[1]); g != want || e != api.OK {
			t.Error(text, g, e)
		}
	}
	long := []api.Inst{{Op: api.OpTrue}}
	for len(long) < api.MaxItems {
		long = append(long, api.Inst{Op: api.OpNot})
	}
	if g, e := replay.Holds(m, long, s[0]); g || e != api.OK {
		t.Error("as long as may be", g, e)
	}
	for i, l := range [][]api.Inst{nil, {{Op: api.OpNot}}, {{Op: api.OpTrue}, {Op: api.OpTrue}}, {{Op: 0}}, {{Op: 99}}, {{Op: api.OpTrue}, {Op: api.OpAX}}, {{Op: api.OpTrue}, {Op: api.OpEG}}, {{Op: api.OpTrue}, {Op: api.OpTrue}, {Op: api.OpEU}}, {{Op: api.OpTrue}, {Op: api.OpAnd}}, append(long[:api.MaxItems:api.MaxItems], api.Inst{Op: api.OpNot})} {
		if g, e := replay.Holds(m, l, s[0]); g || e != api.ErrForm {
			t.Error(i, g, e)
		}
	}
}

func TestShows(t *testing.T) {
	m := read(t, example)
	e, g, idle := move(0, 0, 6), move(1, 1), step.Idle()
	for i, x := range []struct {
		t           trace.Trace
		through, to string
		want        bool
	}{
		{of(-1), "false", "open s", true}, {of(-1), "true", "open t", false}, {of(-1, e), "not open t", "open t", true}, {of(-1, e), "open t", "open t", false}, {of(-1, e), "open s", "not open t", false}, {of(-1, e, g), "open s", "complete", true}, {of(-1, e, g), "not open t", "complete", false}, {of(-1, e, g, idle), "open s", "complete", false}, {of(-1, e, g, idle), "true", "complete", true}, {of(-1, e, g), "open t or a = 1", "true", true},
		{of(2, e, g, idle), "true", "false", true}, {of(2, e, g, idle), "not stuck", "false", true}, {of(2, e, g, idle), "open s", "true", false}, {of(2, e, g, idle), "not complete", "true", false}, {of(2, e, g, idle), "complete or open s", "open s", true},
	} {
		if ok, e := replay.Shows(m, x.t, property(t, m, x.through), property(t, m, x.to)); ok != x.want || e != api.OK {
			t.Error(i, ok, e)
		}
	}
	truth, bad := []api.Inst{{Op: api.OpTrue}}, []api.Inst{{Op: api.OpTrue}, {Op: api.OpAX}}
	for i, x := range []struct {
		t           trace.Trace
		through, to []api.Inst
		e           api.Errno
	}{
		{of(-1), bad, truth, api.ErrForm}, {of(-1), truth, bad, api.ErrForm}, {of(2, e, g, idle), truth, bad, api.ErrForm}, {of(2, e, g, idle), bad, truth, api.ErrForm}, {of(-1), nil, truth, api.ErrForm}, {of(-1), truth, nil, api.ErrForm}, {of(-1, g), bad, bad, api.ErrStep}, {of(0, e), bad, truth, api.ErrLoop},
	} {
		if ok, e := replay.Shows(m, x.t, x.through, x.to); ok || e != x.e {
			t.Error(i, ok, e)
		}
	}
}

func TestJustRunsReplay(t *testing.T) {
	m := read(t, example)
	rnd := rand.New(rand.NewSource(41))
	lines := []string{"idle;", "e by u sets a = 6;", "e by v sets a = 6;", "e by u sets a = 5;", "g by u;", "g by v;"}
	moves := []api.Move{step.Idle(), move(0, 0, 6), move(0, 1, 6), move(0, 0, 5), move(1, 0), move(1, 1)}
	good := 0
	for range 20000 {
		var l []api.Move
		var b strings.Builder
		n := rnd.Intn(5)
		loop := rnd.Intn(n+1) - 1
		for i := range n {
			if i == loop {
				b.WriteString("loop; ")
			}
			k := rnd.Intn(len(lines))
			l = append(l, moves[k])
			b.WriteString(lines[k] + " ")
		}
		_, e := run.All(m, l)
		if e == api.OK && loop >= 0 {
			e = run.Loops(m, l, loop)
		}
		made, f, part := replay.Text(example, b.String())
		if e == api.OK {
			good++
		}
		if (e == api.OK) != (part == 0) || f.Err != e || e == api.OK && made != n || e != api.OK && made != 0 {
			t.Fatal(b.String(), e, made, f, part)
		}
	}
	if good < 300 {
		t.Error("too few replay", good)
	}
}
