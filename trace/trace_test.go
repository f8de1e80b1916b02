package trace_test

import (
	"math"
	"math/rand"
	"reflect"
	"slices"
	"strings"
	"testing"

	"warder/api"
	"warder/model"
	"warder/trace"
)

const text = `attr a = 1; attr b = 2; user u; user v; role r = u v; stage s; event e by r in s sets a max 1; event f by r in s sets b, a max 1; event g by r in s; guard s; milestone k of s;`

func read(t *testing.T, s string) api.Model {
	t.Helper()
	m, f, _ := model.Read(s)
	if f.Err != api.OK {
		t.Fatal(s, f)
	}
	return m
}

func move(event, user int, vals ...int64) api.Move {
	return api.Move{Event: event, User: user, Vals: vals}
}

func idle() api.Move { return move(-1, -1) }

func same(a, b trace.Trace) bool {
	return a.Loop == b.Loop && slices.EqualFunc(a.Moves, b.Moves, func(v, w api.Move) bool {
		return v.Event == w.Event && v.User == w.User && slices.Equal(v.Vals, w.Vals)
	})
}

func of(loop int, l ...api.Move) trace.Trace { return trace.Trace{Moves: l, Loop: loop} }

func TestText(t *testing.T) {
	m := read(t, text)
	for _, x := range []struct {
		t    trace.Trace
		want string
	}{
		{of(-1, move(0, 0, 7)), "e by u sets a = 7;\n"}, {of(-1), ""}, {of(-1, move(1, 1, -3, math.MinInt64), move(2, 0), idle()), "f by v sets b = -3, a = -9223372036854775808;\ng by u;\nidle;\n"},
		{of(0, idle()), "loop;\nidle;\n"}, {of(2, move(2, 0), move(2, 1), idle(), idle()), "g by u;\ng by v;\nloop;\nidle;\nidle;\n"},
	} {
		if s, e := trace.Text(m, x.t); s != x.want || e != api.OK {
			t.Errorf("%q %v, not %q", s, e, x.want)
		}
		if got, f := trace.Read(m, x.want); !same(got, x.t) || f != (api.Fault{}) {
			t.Errorf("%q: %v %v", x.want, got, f)
		}
	}
}

func TestTextErrors(t *testing.T) {
	m := read(t, text)
	many := slices.Repeat([]api.Move{idle()}, api.MaxMoves)
	bad := move(9, 9)
	for i, x := range []struct {
		t trace.Trace
		e api.Errno
	}{
		{of(-1, append(slices.Clone(many), idle())...), api.ErrLong}, {of(-7, append(slices.Clone(many), bad)...), api.ErrLong}, {of(0), api.ErrLoop}, {trace.Trace{}, api.ErrLoop}, {of(-2), api.ErrLoop}, {of(1, idle()), api.ErrLoop}, {of(-2, bad), api.ErrLoop}, {of(math.MaxInt, idle()), api.ErrLoop}, {of(math.MinInt, idle()), api.ErrLoop},
		{of(-1, bad), api.ErrForm}, {of(-1, idle(), move(3, 0)), api.ErrForm}, {of(-1, move(-2, 0)), api.ErrForm}, {of(-1, move(2, 2)), api.ErrForm}, {of(-1, move(2, -1)), api.ErrForm}, {of(-1, move(-1, 0)), api.ErrForm}, {of(-1, move(-1, -1, 5)), api.ErrForm}, {of(-1, move(0, 0)), api.ErrForm}, {of(-1, move(0, 0, 1, 2)), api.ErrForm}, {of(-1, move(2, 0, 1)), api.ErrForm}, {of(-1, move(1, 0, 1)), api.ErrForm}, {of(-1, move(math.MaxInt, math.MinInt)), api.ErrForm},
	} {
		if s, e := trace.Text(m, x.t); s != "" || e != x.e {
			t.Errorf("%d: %q %v", i, s, e)
		}
	}
	if s, e := trace.Text(m, of(api.MaxMoves-1, many...)); e != api.OK || strings.Count(s, "\n") != api.MaxMoves+1 {
		t.Error("as many as may be", e)
	}
	for i, change := range []func(m *api.Model){
		func(m *api.Model) { m.Events[0].Name = "E" }, func(m *api.Model) { m.Events[0].Name = "" }, func(m *api.Model) { m.Users[0] = "in" }, func(m *api.Model) { m.Attrs[0] = "9" }, func(m *api.Model) { m.Events[0].Sets[0] = 2 }, func(m *api.Model) { m.Events[0].Sets[0] = -1 },
	} {
		m := read(t, text)
		change(&m)
		if s, e := trace.Text(m, of(-1, move(0, 0, 7))); s != "" || e != api.ErrForm {
			t.Error(i, s, e)
		}
		if s, e := trace.Text(m, of(-1, move(2, 1))); s != "g by v;\n" || e != api.OK {
			t.Error("what is not named counts for nothing", i, s, e)
		}
	}
}

func TestReadFaults(t *testing.T) {
	m := read(t, text)
	at := func(e api.Errno, line, col int) api.Fault {
		return api.Fault{Err: e, At: api.Pos{Line: line, Col: col}}
	}
	many := strings.Repeat("idle;\n", api.MaxMoves)
	for _, x := range []struct {
		s    string
		want api.Fault
	}{
		{"e", at(api.ErrToken, 1, 2)}, {"e by", at(api.ErrToken, 1, 5)}, {"e by u", at(api.ErrToken, 1, 7)}, {"e u", at(api.ErrToken, 1, 3)}, {"e by u sets", at(api.ErrToken, 1, 12)}, {"e by u sets a", at(api.ErrToken, 1, 14)}, {"e by u sets a =", at(api.ErrToken, 1, 16)}, {"e by u sets a = 7", at(api.ErrToken, 1, 18)}, {"e by u sets a = 7,", at(api.ErrToken, 1, 19)}, {"e by u sets a = b;", at(api.ErrToken, 1, 17)}, {"e by u sets a < 7;", at(api.ErrToken, 1, 15)}, {"e by u sets 7 = 7;", at(api.ErrToken, 1, 13)}, {"e by u sets ;", at(api.ErrToken, 1, 13)}, {"e by u sets = 7;", at(api.ErrToken, 1, 13)}, {"e by u sets a = ;", at(api.ErrToken, 1, 17)}, {"f by u sets b = , a = 1;", at(api.ErrToken, 1, 17)}, {"e by u a = 7;", at(api.ErrToken, 1, 8)}, {"e by u sets a = 7 b = 8;", at(api.ErrToken, 1, 19)}, {"e by 1;", at(api.ErrToken, 1, 6)}, {"q by w, ;", at(api.ErrToken, 1, 7)},
		{";", at(api.ErrToken, 1, 1)}, {"idle", at(api.ErrToken, 1, 5)}, {"idle idle;", at(api.ErrToken, 1, 6)}, {"loop", at(api.ErrToken, 1, 5)}, {"7;", at(api.ErrToken, 1, 1)}, {"by u;", at(api.ErrToken, 1, 1)}, {"true;", at(api.ErrToken, 1, 1)}, {"idle;;", at(api.ErrToken, 1, 6)},
		{"loop; idle; loop; idle;", at(api.ErrTwice, 1, 13)}, {"loop; loop", at(api.ErrTwice, 1, 7)}, {"idle; loop;\nidle; loop ]", at(api.ErrTwice, 2, 7)},
		{" q by u;", at(api.ErrName, 1, 2)}, {"u by u;", at(api.ErrKind, 1, 1)}, {"q by e sets z = 1;", at(api.ErrName, 1, 1)}, {"s by w;", at(api.ErrKind, 1, 1)}, {"g by w;", at(api.ErrName, 1, 1)}, {"g by k;", at(api.ErrKind, 1, 1)}, {"g by r;", at(api.ErrKind, 1, 1)}, {"e by w sets z = 1;", at(api.ErrName, 1, 1)},
		{"idle;\n g by u sets a = 1;", at(api.ErrForm, 2, 2)}, {"e by u;", at(api.ErrForm, 1, 1)}, {"e by u sets b = 1;", at(api.ErrForm, 1, 1)}, {"e by u sets z = 1;", at(api.ErrForm, 1, 1)}, {"e by u sets a = 1, a = 2;", at(api.ErrForm, 1, 1)}, {"f by u sets a = 1, b = 2;", at(api.ErrForm, 1, 1)}, {"f by u sets b = 1;", at(api.ErrForm, 1, 1)}, {"g by u sets a = 1; ]", at(api.ErrForm, 1, 1)},
		{"loop;", at(api.ErrLoop, 1, 6)}, {"g by u; loop; # \n", at(api.ErrLoop, 2, 1)}, {"loop; q by u;", at(api.ErrName, 1, 7)},
		{many + "idle;", at(api.ErrLong, api.MaxMoves+1, 1)}, {many + " g by u;", at(api.ErrLong, api.MaxMoves+1, 2)}, {many + " q by u;", at(api.ErrName, api.MaxMoves+1, 2)}, {many + "e by u;", at(api.ErrForm, api.MaxMoves+1, 1)}, {many + "idle idle", at(api.ErrToken, api.MaxMoves+1, 6)}, {many + "loop;", at(api.ErrLoop, api.MaxMoves+1, 6)}, {many + "loop; idle;", at(api.ErrLong, api.MaxMoves+1, 7)}, {many + "loop loop", at(api.ErrToken, api.MaxMoves+1, 6)},
		{"q by u; !", at(api.ErrChar, 1, 9)}, {"q ; 9223372036854775808", at(api.ErrNumber, 1, 5)}, {strings.Repeat("g", api.MaxRunes+1), api.Fault{Err: api.ErrLong}},
	} {
		if got, f := trace.Read(m, x.s); !reflect.DeepEqual(got, trace.Trace{}) || f != x.want {
			t.Errorf("%.60q: %v %v, not %v", x.s, got, f, x.want)
		}
	}
	if got, f := trace.Read(m, many[:6*10]+"loop;\n"+many[6*10:]); f != (api.Fault{}) || len(got.Moves) != api.MaxMoves || got.Loop != 10 {
		t.Error("as many as may be", f)
	}
	if got, f := trace.Read(m, "# nothing"); f != (api.Fault{}) || got.Loop != -1 || len(got.Moves) != 0 {
		t.Error(got, f)
	}
}

func TestNamesThatAreWrong(t *testing.T) {
	for i, x := range []struct {
		change func(m *api.Model)
		e      api.Errno
	}{
		{func(m *api.Model) { m.Attrs[1] = "a" }, api.ErrTwice}, {func(m *api.Model) { m.Miles[0].Name = "g" }, api.ErrTwice}, {func(m *api.Model) { m.Stages[0].Name = "u" }, api.ErrTwice}, {func(m *api.Model) { m.Roles[0].Name = "b" }, api.ErrTwice}, {func(m *api.Model) { m.Events[2].Name = "e" }, api.ErrTwice}, {func(m *api.Model) { m.Users = []string{"p", "q", "w", "x", "y"} }, api.ErrLong},
	} {
		m := read(t, text)
		x.change(&m)
		for _, s := range []string{"", "idle;", "; ;", "g by u;"} {
			if got, f := trace.Read(m, s); !reflect.DeepEqual(got, trace.Trace{}) || f != (api.Fault{Err: x.e}) {
				t.Error(i, s, got, f)
			}
		}
		if _, f := trace.Read(m, "!"); f.Err != api.ErrChar {
			t.Error(i, f)
		}
	}
	// an event that sets what there is not is never told
	m := read(t, text)
	m.Events[0].Sets[0] = 7
	if _, f := trace.Read(m, "e by u sets a = 1;"); f != (api.Fault{Err: api.ErrForm, At: api.Pos{Line: 1, Col: 1}}) {
		t.Error(f)
	}
}

func TestWhatIsToldIsRead(t *testing.T) {
	m := read(t, text)
	rnd := rand.New(rand.NewSource(40))
	for range 2000 {
		x := of(-1)
		for range rnd.Intn(8) {
			v := idle()
			if e := rnd.Intn(4) - 1; e >= 0 {
				v = move(e, rnd.Intn(2))
				for range m.Events[e].Sets {
					v.Vals = append(v.Vals, int64(rnd.Uint64())>>rnd.Intn(64))
				}
			}
			x.Moves = append(x.Moves, v)
		}
		if len(x.Moves) > 0 {
			x.Loop = rnd.Intn(len(x.Moves)+1) - 1
		}
		s, e := trace.Text(m, x)
		got, f := trace.Read(m, s)
		if e != api.OK || f.Err != api.OK || !same(got, x) {
			t.Fatalf("%v: %q %v; %v %v", x, s, e, got, f)
		}
		loose, f := trace.Read(m, " # x\n"+strings.ReplaceAll(strings.ReplaceAll(s, "\n", " "), ";", " ;"))
		if f.Err != api.OK || !same(loose, x) {
			t.Fatal(f)
		}
	}
}
