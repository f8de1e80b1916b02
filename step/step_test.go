package step_test

import (
	"math"
	"math/rand"
	"slices"
	"testing"

	"warder/api"
	"warder/bits"
	"warder/model"
	"warder/rights"
	"warder/state"
	"warder/step"
)

const example = `attr a = 1; attr b = 2; user u; user v; role r = u v; stage s; stage t in s;
event e by r in s sets b, a max 1; event g by r in t; guard s; guard t on e if a > 5;
milestone k of t on g; milestone l of s if done k final; sod e, g;`

func read(t *testing.T, s string) api.Model {
	t.Helper()
	m, f, _ := model.Read(s)
	if f.Err != api.OK {
		t.Fatal(s, f)
	}
	return m
}

func move(event, user int, vals ...int64) api.Move {
	return api.Move{Event: event, User: user, Vals: vals}
}

func TestIdle(t *testing.T) {
	if v := step.Idle(); v.Event != -1 || v.User != -1 || len(v.Vals) != 0 {
		t.Error(v)
	}
}

func TestBegin(t *testing.T) {
	m := read(t, example)
	if s := step.Begin(m); state.Text(s) != "2 1 2 1 0 2 0 0 2 0 0" {
		t.Error(state.Text(s))
	}
	if s := step.Begin(read(t, "user u; role r = u; stage s; stage t; event e by r in s; guard s; guard t on e;")); s.Open != 1 {
		t.Error("no event was yet", s)
	}
	s := step.Begin(m)
	s.Vals[0] = 99
	if m.Inits[0] != 1 {
		t.Error("shared")
	}
	if s := step.Begin(api.Model{}); state.Text(s) != "0 0 0 0 0" {
		t.Error(s)
	}
}

func TestDo(t *testing.T) {
	m := read(t, example)
	s := step.Begin(m)
	v := move(0, 1, 7, 6) // b = 7, a = 6
	s1, e := step.Do(m, s, v)
	if e != api.OK || state.Text(s1) != "2 6 7 3 0 2 2 0 2 1 0" || state.Text(s) != "2 1 2 1 0 2 0 0 2 0 0" {
		t.Fatal(state.Text(s1), e)
	}
	if _, e := step.Do(m, s1, move(1, 1)); e != api.ErrStep {
		t.Error("duties that are apart", e)
	}
	s2, e := step.Do(m, s1, move(1, 0))
	if e != api.OK || state.Text(s2) != "2 6 7 0 3 2 2 1 2 1 0" {
		t.Fatal(state.Text(s2), e)
	}
	s3, e := step.Do(m, s2, step.Idle())
	if e != api.OK || !state.Same(s2, s3) {
		t.Fatal(s3, e)
	}
	s3.Vals[0], s3.Did[0], s3.Count[0] = 99, 99, 99
	if state.Text(s2) != "2 6 7 0 3 2 2 1 2 1 0" {
		t.Error("shared")
	}
	if s, _ := step.Do(m, s, move(0, 0, 7, 5)); s.Open != 1 || s.Vals[0] != 5 || s.Vals[1] != 7 || s.Count[0] != 1 || s.Did[0] != 1 {
		t.Error(s)
	}
	s1.Vals[0] = 77
	if v.Vals[1] != 6 || v.Vals[0] != 7 {
		t.Error("shared with the move")
	}
}

func TestExample(t *testing.T) {
	m := read(t, "attr a = 1; user u; role r = u; stage s; guard s; event e by r in s sets a max 3;")
	s, e := step.Do(m, step.Begin(m), move(0, 0, 7))
	if e != api.OK || s.Vals[0] != 7 || s.Count[0] != 1 {
		t.Error(s, e)
	}
	// an event without a bound is not counted
	m = read(t, "user u; role r = u; stage s; guard s; event e by r in s;")
	s, e = step.Do(m, step.Begin(m), move(0, 0))
	if e != api.OK || s.Count[0] != 0 || s.Did[0] != 1 {
		t.Error(s, e)
	}
}

func TestMay(t *testing.T) {
	m := read(t, example)
	begin := step.Begin(m)
	after, _ := step.Do(m, begin, move(0, 1, 7, 6))
	end, _ := step.Do(m, after, move(1, 0))
	bad := begin
	bad.Open = 4
	for i, x := range []struct {
		s api.State
		v api.Move
		e api.Errno
	}{
		{begin, move(0, 0, 1, 2), api.OK}, {begin, move(0, 1, 1, 2), api.OK}, {begin, step.Idle(), api.ErrStep}, {begin, move(1, 0), api.ErrStep}, {begin, move(0, 2, 1, 2), api.ErrStep}, {begin, move(2, 0), api.ErrStep}, {begin, move(-1, 0), api.ErrStep}, {begin, move(0, -1, 1, 2), api.ErrStep}, {begin, move(-1, -1, 5), api.ErrStep}, {begin, move(math.MinInt, math.MaxInt), api.ErrStep},
		{begin, move(0, 0), api.ErrForm}, {begin, move(0, 0, 1), api.ErrForm}, {begin, move(0, 0, 1, 2, 3), api.ErrForm}, {after, move(1, 0, 4), api.ErrForm}, {after, move(1, 1, 4), api.ErrStep}, {after, move(0, 0, 1, 2), api.ErrStep}, {after, move(1, 0), api.OK},
		{end, step.Idle(), api.OK}, {end, move(-1, -1, 5), api.ErrStep}, {end, move(0, -1), api.ErrStep}, {end, move(-2, -1), api.ErrStep}, {end, move(-1, 0), api.ErrStep}, {end, move(0, 0, 1, 2), api.ErrStep}, {end, move(1, 0), api.ErrStep}, {end, api.Move{Event: -1, User: -1, Vals: []int64{}}, api.OK},
		{bad, move(0, 0, 1, 2), api.ErrState}, {bad, step.Idle(), api.ErrState}, {bad, move(9, 9), api.ErrState}, {api.State{}, step.Idle(), api.ErrState},
	} {
		if e := step.May(m, x.s, x.v); e != x.e {
			t.Error(i, e)
		}
		if s, e := step.Do(m, x.s, x.v); e != x.e || e != api.OK && !state.Same(s, api.State{}) {
			t.Error(i, s, e)
		}
	}
}

func TestOddEvents(t *testing.T) {
	// an attribute that is set twice is the last number
	m := api.Model{Attrs: []string{"a"}, Inits: []int64{1}, Users: []string{"u"}, Roles: []api.Role{{Users: 1}}, Stages: []api.Stage{{Parent: -1}}, Events: []api.Event{{Sets: []int{0, 0}, Times: 2}}}
	s := api.State{Vals: []int64{1}, Open: 1, Did: []int{0}, Count: []int{0}}
	g, e := step.Do(m, s, move(0, 0, 3, 4))
	if e != api.OK || !slices.Equal(g.Vals, []int64{4}) {
		t.Error(g, e)
	}
}

func TestMoves(t *testing.T) {
	m := read(t, example)
	begin := step.Begin(m)
	l := step.Moves(m, begin)
	if len(l) != 2 || l[0].Event != 0 || l[0].User != 0 || l[1].User != 1 || !slices.Equal(l[0].Vals, []int64{0, 0}) || !slices.Equal(l[1].Vals, []int64{0, 0}) {
		t.Error(l)
	}
	l[0].Vals[0] = 5
	if l[1].Vals[0] != 0 {
		t.Error("shared")
	}
	after, _ := step.Do(m, begin, move(0, 1, 7, 6))
	if l := step.Moves(m, after); len(l) != 1 || l[0].Event != 1 || l[0].User != 0 || len(l[0].Vals) != 0 {
		t.Error(l)
	}
	end, _ := step.Do(m, after, move(1, 0))
	if l := step.Moves(m, end); len(l) != 1 || l[0].Event != -1 || l[0].User != -1 || len(l[0].Vals) != 0 {
		t.Error(l)
	}
	if l := step.Moves(m, api.State{}); len(l) != 0 {
		t.Error(l)
	}
	if l := step.Moves(api.Model{}, api.State{}); len(l) != 1 || l[0].Event != -1 {
		t.Error(l)
	}
}

var models = []string{
	example,
	"attr a = 1; user u; role r = u; stage s; guard s; event e by r in s sets a max 3; event f by r in s;",
	"user u; user v; user w; role r = u v; role q = w v; stage s; stage t; guard s; guard t on e; event e by r in s; event f by q in t max 2; milestone k of s on f; milestone l of t if done k; guard s on f; sod e, f;",
	"attr a = 0; user u; role r = u; stage s; stage t in s; stage x in t; guard s; guard t on e if a < 2; guard x if a = 1; event e by r in s sets a max 3; event f by r in x; milestone k of x on f; milestone n of t if done k and a != 0; milestone z of s if done n final;",
	"", "stage s;", "user u; role r = u; stage s; guard s; event e by r in s; event f by r in s; sod e, f;",
}

func TestWhatComesOfAMoveMayBe(t *testing.T) {
	rnd := rand.New(rand.NewSource(19))
	for _, text := range models {
		m := read(t, text)
		for range 200 {
			s := step.Begin(m)
			for range 12 {
				l := step.Moves(m, s)
				if len(l) == 0 || !state.Check(m, s) || !state.Sound(m, s) {
					t.Fatal(text, s)
				}
				count := 0
				for e := range m.Events {
					count += len(rights.Who(m, s, e))
				}
				if count != len(l) && (count != 0 || len(l) != 1 || l[0].Event != -1) {
					t.Fatal(text, l)
				}
				for i, v := range l {
					if step.May(m, s, v) != api.OK || i > 0 && (v.Event < l[i-1].Event || v.Event == l[i-1].Event && v.User <= l[i-1].User) {
						t.Fatal(text, l)
					}
				}
				v := l[rnd.Intn(len(l))]
				for i := range v.Vals {
					v.Vals[i] = int64(rnd.Intn(9) - 2)
				}
				next, e := step.Do(m, s, v)
				if e != api.OK {
					t.Fatal(text, s, v, e)
				}
				for i := range m.Events {
					if !bits.Within(s.Did[i], next.Did[i]) || next.Count[i] < s.Count[i] {
						t.Fatal(text, s, next)
					}
				}
				s = next
			}
		}
	}
}
