package shrink_test

import (
	"math/rand"
	"reflect"
	"slices"
	"strings"
	"testing"

	"warder/api"
	"warder/decl"
	"warder/model"
	"warder/page"
	"warder/run"
	"warder/shrink"
	"warder/step"
	"warder/verify"
)

const example = `attr a = 1; user u; user v; role r = u v; stage s; stage t in s; event e by r in s sets a max 1; event g by r in t; guard s; guard t on e if a > 5; milestone k of t on g; milestone l of s if done k final; sod e, g;`

func stmts(t *testing.T, s string) []api.Stmt {
	t.Helper()
	l, f := decl.Read(s)
	if f.Err != api.OK {
		t.Fatal(f)
	}
	return l
}

func text(t *testing.T, l []api.Stmt) string {
	t.Helper()
	s, e := page.Text(l)
	if e != api.OK {
		t.Fatal(e)
	}
	return strings.ReplaceAll(s, "\n", " ")
}

func kinds(l []api.Stmt, kind int) int {
	n := 0
	for _, x := range l {
		if x.Kind == kind {
			n++
		}
	}
	return n
}

func TestList(t *testing.T) {
	three := "attr a = 1; attr b = 2; attr c = 3; "
	if g := text(t, shrink.List(stmts(t, three), func(l []api.Stmt) bool { return kinds(l, api.StAttr) > 0 })); g != "attr a = 1; " {
		t.Error(g)
	}
	for i, x := range []struct {
		s     string
		holds func(l []api.Stmt) bool
		want  string
	}{
		{three, nil, three}, {"", func([]api.Stmt) bool { return true }, ""}, {three, func([]api.Stmt) bool { return true }, ""}, {three, func([]api.Stmt) bool { return false }, three}, {three, func(l []api.Stmt) bool { return len(l) < 3 }, three},
		{three, func(l []api.Stmt) bool { return len(l)%2 == 1 }, three}, {"user u; " + three + "user v; ", func(l []api.Stmt) bool { return kinds(l, api.StAttr) >= 2 }, "attr a = 1; attr b = 2; "}, {three, func(l []api.Stmt) bool { return slices.ContainsFunc(l, func(x api.Stmt) bool { return x.Name == "b" }) }, "attr b = 2; "},
		// what goes in a later round: c only goes when a has gone
		{three, func(l []api.Stmt) bool {
			has := func(n string) bool { return slices.ContainsFunc(l, func(x api.Stmt) bool { return x.Name == n }) }
			return has("b") && (has("c") || !has("a"))
		}, "attr b = 2; "},
	} {
		if g := text(t, shrink.List(stmts(t, x.s), x.holds)); g != x.want {
			t.Error(i, g)
		}
	}
}

func TestMemoryOfItsOwn(t *testing.T) {
	l := stmts(t, "role r = u v; guard s if a < 3; user u;")
	kept := stmts(t, "role r = u v; guard s if a < 3; user u;")
	got := shrink.List(l, func(x []api.Stmt) bool {
		for i := range x {
			x[i].Name = "z"
			if len(x[i].Names) > 0 {
				x[i].Names[0] = "z"
			}
			if len(x[i].If) > 0 {
				x[i].If[0].Op = 99
			}
		}
		return len(x) >= 2
	})
	if !reflect.DeepEqual(l, kept) || !reflect.DeepEqual(got, kept[:2]) {
		t.Error(got)
	}
	for _, holds := range []func([]api.Stmt) bool{nil, func([]api.Stmt) bool { return false }, func(x []api.Stmt) bool { return len(x) >= 2 }} {
		got := shrink.List(l, holds)
		got[0].Names[0], got[0].Name, got[1].If[0].Op = "q", "q", 77
		if !reflect.DeepEqual(l, kept) {
			t.Fatal("shared")
		}
	}
}

func TestModel(t *testing.T) {
	for i, x := range []struct {
		m, prop string
		budget  int
		want    string
		ok      bool
	}{
		{example, "true", 1000, "", true}, {example, "", 1000, "", true}, {example, "open q", 1000, "", true}, {example, "AG not open s", 1000, "stage s; guard s; ", true},
		{"user", "true", 10, "", false}, {"user u; user u;", "true", 10, "", false}, {"stage s; guard s if open s;", "true", 10, "", false}, {"", "true", 0, "", true}, {"", "open q", 0, "", true},
	} {
		g, ok := shrink.Model(x.m, x.prop, x.budget)
		if strings.ReplaceAll(g, "\n", " ") != x.want || ok != x.ok {
			t.Errorf("%d: %q %v", i, g, ok)
		}
	}
}

func TestSmallestModels(t *testing.T) {
	g, ok := shrink.Model(example, "true", 2)
	if kind := verify.Verify(g, "true", 2).Kind; !ok || kind != verify.BudgetExceeded || len(stmts(t, g)) != 7 {
		t.Error(g, ok)
	}
	for _, prop := range []string{"AG not complete", "AF complete", "AG (done k implies done l)", "EF stuck", "AG EF complete", "open q", "AG a <= 7", "not EF can g"} {
		g, ok := shrink.Model(example, prop, 1000)
		kind := verify.Verify(example, prop, 1000).Kind
		if !ok || verify.Verify(g, prop, 1000).Kind != kind {
			t.Fatal(prop, g, ok)
		}
		l := stmts(t, g)
		for i := range l {
			less, _ := page.Text(append(slices.Clone(l[:i]), l[i+1:]...))
			if verify.Verify(less, prop, 1000).Kind == kind {
				t.Error(prop, "without one more it holds still:", less)
			}
		}
		// what is left stands in the order in which it stood
		all := stmts(t, example)
		at := 0
		for _, x := range l {
			line, _ := page.Line(x)
			for ; at < len(all); at++ {
				if o, _ := page.Line(all[at]); o == line {
					break
				}
			}
			if at == len(all) {
				t.Error(prop, g)
			}
		}
	}
}

func read(t *testing.T, s string) api.Model {
	t.Helper()
	m, f, _ := model.Read(s)
	if f.Err != api.OK {
		t.Fatal(s, f)
	}
	return m
}

func move(event, user int, vals ...int64) api.Move {
	return api.Move{Event: event, User: user, Vals: vals}
}

func TestMoves(t *testing.T) {
	m := read(t, strings.Replace(example, "event g", "event h by r in s; event g", 1))
	e, h, g, idle := move(0, 0, 6), move(1, 0), move(2, 1), step.Idle()
	complete := func(s api.State) bool { return s.Done&2 != 0 }
	for i, x := range []struct {
		l     []api.Move
		holds func(api.State) bool
		want  []api.Move
	}{
		{[]api.Move{h, e, h, g, idle}, complete, []api.Move{e, g}}, {[]api.Move{h, e, h}, nil, nil}, {[]api.Move{h, h, h}, func(s api.State) bool { return s.Did[1] != 0 }, []api.Move{h}}, {nil, nil, nil}, {[]api.Move{h, e}, func(api.State) bool { return false }, []api.Move{h, e}}, {[]api.Move{h, e}, complete, []api.Move{h, e}},
		// no run: as it was
		{[]api.Move{g, h}, nil, []api.Move{g, h}}, {[]api.Move{e, e}, complete, []api.Move{e, e}}, {[]api.Move{move(0, 0)}, nil, []api.Move{move(0, 0)}},
	} {
		got := shrink.Moves(m, x.l, x.holds)
		if !slices.EqualFunc(got, x.want, func(a, b api.Move) bool {
			return a.Event == b.Event && a.User == b.User && slices.Equal(a.Vals, b.Vals)
		}) {
			t.Error(i, got)
		}
		for k := range got {
			if len(got[k].Vals) > 0 {
				got[k].Vals[0] = 99
			}
		}
		if e.Vals[0] != 6 {
			t.Fatal("shared")
		}
	}
}

func TestShortestRuns(t *testing.T) {
	rnd := rand.New(rand.NewSource(48))
	m := read(t, "user u; user v; user w; role r = u v; role q = w v; stage s; stage t; guard s; guard t on e; event e by r in s; event f by q in t max 2; milestone k of s on f; milestone l of t if done k; guard s on f; sod e, f;")
	for range 300 {
		var l []api.Move
		s := step.Begin(m)
		for range rnd.Intn(8) {
			moves := step.Moves(m, s)
			l = append(l, moves[rnd.Intn(len(moves))])
			s, _ = step.Do(m, s, l[len(l)-1])
		}
		holds := func(x api.State) bool { return x.Open == s.Open && x.Done == s.Done }
		got := shrink.Moves(m, l, holds)
		last, _, e := run.Last(m, got)
		if e != api.OK || !holds(last) {
			t.Fatal(l, got)
		}
		for i := range got {
			if x, _, e := run.Last(m, append(slices.Clone(got[:i]), got[i+1:]...)); e == api.OK && holds(x) {
				t.Fatal(l, got)
			}
		}
	}
}
