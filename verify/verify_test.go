package verify_test

import (
	"math"
	"math/rand"
	"reflect"
	"strconv"
	"strings"
	"testing"

	"warder/api"
	"warder/atoms"
	"warder/frag"
	"warder/graph"
	"warder/label"
	"warder/model"
	"warder/norm"
	"warder/replay"
	"warder/state"
	"warder/step"
	"warder/trace"
	"warder/verify"
)

const (
	example = `attr a = 1; user u; user v; role r = u v; stage s; stage t in s; event e by r in s sets a max 1; event g by r in t; guard s; guard t on e if a > 5; milestone k of t on g; milestone l of s if done k final; sod e, g;`
	alone   = `attr a = 1; user u; role r = u; stage s; stage t in s; event e by r in s sets a max 1; event g by r in t; guard s; guard t on e if a > 5; milestone k of t on g; milestone l of s if done k final; sod e, g;`
	far     = `attr a = 9223372036854775807; user u; role r = u; stage s; guard s; event e by r in s sets a max 1;`
)

func fault(e api.Errno, line, col int) api.Fault {
	return api.Fault{Err: e, At: api.Pos{Line: line, Col: col}}
}

func TestAnswers(t *testing.T) {
	for i, x := range []struct {
		m, prop string
		budget  int
		want    verify.Answer
	}{
		// the examples of the whole
		{example, "AG (done k implies done l)", 1000, verify.Answer{Kind: verify.Holds}}, {example, "AG not complete", 1000, verify.Answer{Kind: verify.Fails, Trace: "e by u sets a = 6;\ng by v;\n"}}, {example, "AF complete", 1000, verify.Answer{Kind: verify.Fails, Trace: "e by u sets a = 4;\nloop;\nidle;\n"}},
		{example, "EF stuck", 1000, verify.Answer{Kind: verify.Fails}}, {alone, "not EF stuck", 1000, verify.Answer{Kind: verify.Fails, Trace: "e by u sets a = 6;\n"}}, {example, "AG EF complete", 1000, verify.Answer{Kind: verify.Fails}},
		{example, "open", 1000, verify.Answer{Kind: verify.ParseError, Part: 2, Fault: fault(api.ErrToken, 1, 5)}}, {example, "open q", 1000, verify.Answer{Kind: verify.IllFormed, Part: 2, Fault: fault(api.ErrName, 1, 6)}}, {example, "true", 2, verify.Answer{Kind: verify.BudgetExceeded}}, {far, "AG a <= 9223372036854775807", 1000, verify.Answer{Kind: verify.WitnessRange}},
		{"stage s;", "AG not open s", 1, verify.Answer{Kind: verify.Holds}},
		// what is wrong with the model goes ahead of all that is wrong with the property, and of the budget
		{"user", "open", 0, verify.Answer{Kind: verify.ParseError, Part: 1, Fault: fault(api.ErrToken, 1, 5)}}, {"user u; !", "true", 9, verify.Answer{Kind: verify.ParseError, Part: 1, Fault: fault(api.ErrChar, 1, 9)}}, {"user u; user u;", "open", 0, verify.Answer{Kind: verify.IllFormed, Part: 1, Fault: fault(api.ErrTwice, 1, 9)}}, {"stage s; guard s if open s;", "true", 5, verify.Answer{Kind: verify.IllFormed, Part: 1, Fault: fault(api.ErrStrata, 0, 0)}},
		{example, "did u u", 0, verify.Answer{Kind: verify.IllFormed, Part: 2, Fault: fault(api.ErrKind, 1, 5)}}, {example, "a = 1 and a = 2 and a = 3 and a = 4 and a = 6 and a = 7", 9, verify.Answer{Kind: verify.IllFormed, Part: 2, Fault: fault(api.ErrLong, 0, 0)}}, {example, "", 9, verify.Answer{Kind: verify.ParseError, Part: 2, Fault: fault(api.ErrToken, 1, 1)}}, {example, strings.Repeat(" ", api.MaxRunes+1), 9, verify.Answer{Kind: verify.ParseError, Part: 2, Fault: fault(api.ErrLong, 0, 0)}},
		{"", "true", 0, verify.Answer{Kind: verify.BudgetExceeded}}, {"", "true", math.MinInt, verify.Answer{Kind: verify.BudgetExceeded}}, {"", "true", 1, verify.Answer{Kind: verify.Holds}}, {"", "false", 1, verify.Answer{Kind: verify.Fails}}, {"", "AG false", 1, verify.Answer{Kind: verify.Fails, Trace: ""}}, {"", "AF false", 1, verify.Answer{Kind: verify.Fails, Trace: "loop;\nidle;\n"}},
		// each row of the table
		{example, "A [open s U open t]", 1000, verify.Answer{Kind: verify.Fails, Trace: "e by u sets a = 4;\nloop;\nidle;\n"}}, {example, "A [not open t U done k]", 1000, verify.Answer{Kind: verify.Fails, Trace: "e by u sets a = 6;\n"}}, {example, "not EF done k", 1000, verify.Answer{Kind: verify.Fails, Trace: "e by u sets a = 6;\ng by v;\n"}}, {example, "not EG not done k", 1000, verify.Answer{Kind: verify.Fails, Trace: "e by u sets a = 4;\nloop;\nidle;\n"}}, {example, "not E [open s U open t]", 1000, verify.Answer{Kind: verify.Fails, Trace: "e by u sets a = 6;\n"}}, {example, "not E [open s U a > 5 and open t]", 1000, verify.Answer{Kind: verify.Fails, Trace: "e by u sets a = 6;\n"}},
		{example, "AX open t", 1000, verify.Answer{Kind: verify.Fails}}, {example, "not open s", 1000, verify.Answer{Kind: verify.Fails}}, {example, "AF AG complete", 1000, verify.Answer{Kind: verify.Fails}}, {example, "AG a = 1", 1000, verify.Answer{Kind: verify.Fails, Trace: "e by u sets a = 0;\n"}}, {example, "AG a <= 7", 1000, verify.Answer{Kind: verify.Fails, Trace: "e by u sets a = 8;\n"}}, {example, "EF (can g and did u e)", 1000, verify.Answer{Kind: verify.Holds}}, {example, "AG (can g implies a > 5)", 1000, verify.Answer{Kind: verify.Holds}}, {example, "AX (open t implies a != 1)", 1000, verify.Answer{Kind: verify.Holds}},
		// a number beyond those of 64 bits, and one that is not
		{far, "AF a > 9223372036854775807", 1000, verify.Answer{Kind: verify.Fails, Trace: "e by u sets a = 9223372036854775806;\nloop;\nidle;\n"}}, {far, "AG a >= 9223372036854775806", 1000, verify.Answer{Kind: verify.Fails, Trace: "e by u sets a = 9223372036854775805;\n"}}, {far, "EX AG a > 9223372036854775807", 1000, verify.Answer{Kind: verify.Holds}}, {far, "AX a <= 9223372036854775807", 1000, verify.Answer{Kind: verify.Fails}},
	} {
		if a := verify.Verify(x.m, x.prop, x.budget); a != x.want {
			t.Errorf("%d: %+v, not %+v", i, a, x.want)
		}
	}
}

func TestWord(t *testing.T) {
	want := map[int]string{1: "HOLDS", 2: "FAILS", 3: "PARSE", 4: "ILL", 5: "BUDGET", 6: "RANGE"}
	for kind := -3; kind < 12; kind++ {
		if g := verify.Word(kind); g != want[kind] {
			t.Error(kind, g)
		}
	}
	if verify.Holds != 1 || verify.Fails != 2 || verify.ParseError != 3 || verify.IllFormed != 4 || verify.BudgetExceeded != 5 || verify.WitnessRange != 6 || verify.Word(math.MaxInt) != "" || verify.Word(math.MinInt) != "" {
		t.Error("kinds")
	}
}

func read(t *testing.T, s string) api.Model {
	t.Helper()
	m, f, _ := model.Read(s)
	if f.Err != api.OK {
		t.Fatal(s, f)
	}
	return m
}

func property(t *testing.T, m api.Model, s string) []api.Inst {
	t.Helper()
	l, f, _ := model.Property(m, s)
	if f.Err != api.OK {
		t.Fatal(s, f)
	}
	return l
}

func TestWitness(t *testing.T) {
	m := read(t, example)
	consts := []int64{5}
	g, _ := graph.Explore(m, consts, 1000)
	for _, x := range []struct {
		prop  string
		ok    bool
		moves int
		loop  int
	}{
		{"AG not complete", true, 2, -1}, {"AF complete", true, 2, 1}, {"AG true", false, 0, 0}, {"AG EF complete", false, 0, 0}, {"EF complete", false, 0, 0}, {"not EG false", false, 0, 0}, {"A [true U complete]", true, 2, 1}, {"A [open s U open t]", true, 2, 1}, {"AG not open s", true, 0, -1},
	} {
		w, ok, e := verify.Witness(m, consts, g, property(t, m, x.prop))
		if ok != x.ok || e != api.OK || len(w.Moves) != x.moves || w.Loop != x.loop {
			t.Error(x, w, ok, e)
		}
	}
	for i, x := range []struct {
		g graph.Graph
		e api.Errno
	}{{graph.Graph{Nodes: g.Nodes}, api.ErrForm}, {graph.Graph{Edges: g.Edges}, api.ErrForm}, {graph.Graph{Nodes: g.Nodes[:2], Edges: g.Edges[:1]}, api.ErrForm}, {graph.Graph{}, api.OK}} {
		for _, prop := range []string{"AG not complete", "AX true"} {
			if w, ok, e := verify.Witness(m, consts, x.g, property(t, m, prop)); ok || e != x.e || !reflect.DeepEqual(w, trace.Trace{}) {
				t.Error(i, w, ok, e)
			}
		}
	}
	if w, ok, e := verify.Witness(m, consts, g, []api.Inst{{Op: api.OpNot}}); ok || e != api.OK || !reflect.DeepEqual(w, trace.Trace{}) {
		t.Error(w, ok, e)
	}
	// pick's errors
	bad := graph.Graph{Nodes: []api.Node{g.Nodes[0], g.Nodes[3]}, Edges: [][]api.Edge{{{Event: 1, To: 1}}, {{Event: -1, User: -1, To: 1}}}}
	bad.Nodes[1].Done = 2
	if w, ok, e := verify.Witness(m, consts, bad, property(t, m, "AG not complete")); ok || e != api.ErrStep || !reflect.DeepEqual(w, trace.Trace{}) {
		t.Error(w, ok, e)
	}
	f := read(t, far)
	edge := []int64{math.MaxInt64}
	g, _ = graph.Explore(f, edge, 1000)
	if w, ok, e := verify.Witness(f, edge, g, property(t, f, "AG a <= 9223372036854775807")); ok || e != api.ErrRange || !reflect.DeepEqual(w, trace.Trace{}) {
		t.Error(w, ok, e)
	}
}

// anyModel is a text of a model of few numbers; it need not be one.
func anyModel(rnd *rand.Rand) string {
	var b strings.Builder
	say := func(s ...string) { b.WriteString(strings.Join(s, "")) }
	num := func() string { return []string{"0", "4", "5"}[rnd.Intn(3)] }
	attrs := rnd.Intn(3)
	for i := range attrs {
		say("attr a", strconv.Itoa(i), " = ", strconv.Itoa(rnd.Intn(7)), "; ")
	}
	users := 1 + rnd.Intn(2)
	for i := range users {
		say("user u", strconv.Itoa(i), "; ")
	}
	say("role r0 = u0; role r1 = ", []string{"u0", "u0 u1", "u1"}[rnd.Intn(1+2*(users-1))], "; ")
	stages := 1 + rnd.Intn(3)
	for i := range stages {
		say("stage s", strconv.Itoa(i))
		if i > 0 && rnd.Intn(2) == 0 {
			say(" in s", strconv.Itoa(rnd.Intn(i)))
		}
		say("; ")
	}
	stage := func() string { return "s" + strconv.Itoa(rnd.Intn(stages)) }
	events, left := 1+rnd.Intn(3), 2
	for i := range events {
		say("event e", strconv.Itoa(i), " by r", strconv.Itoa(rnd.Intn(2)), " in ", stage())
		if attrs > 0 && left > 0 && rnd.Intn(2) == 0 {
			n := 1 + rnd.Intn(left)
			say(" sets a", strconv.Itoa(rnd.Intn(attrs)), " max ", strconv.Itoa(n))
			left -= n
		} else if rnd.Intn(2) == 0 {
			say(" max ", strconv.Itoa(1+rnd.Intn(2)))
		}
		say("; ")
	}
	cond := func() {
		if rnd.Intn(3) == 0 {
			say(" on e", strconv.Itoa(rnd.Intn(events)))
		}
		if attrs > 0 && rnd.Intn(2) == 0 {
			say(" if a", strconv.Itoa(rnd.Intn(attrs)), []string{" < ", " >= ", " = ", " != "}[rnd.Intn(4)], []string{num(), "a0"}[rnd.Intn(2)])
		} else if rnd.Intn(3) == 0 {
			say(" if done m0")
		}
	}
	say("guard s0; ")
	for range 1 + rnd.Intn(3) {
		say("guard ", stage())
		cond()
		say("; ")
	}
	for i := range 1 + rnd.Intn(3) {
		say("milestone m", strconv.Itoa(i), " of ", stage())
		cond()
		say([]string{"; ", " final; "}[rnd.Intn(4)/3])
	}
	if events > 1 && rnd.Intn(2) == 0 {
		say("sod e0, e1; ")
	}
	return b.String()
}

// anyProperty is a text of a property.
func anyProperty(rnd *rand.Rand, deep int) string {
	if deep == 0 || rnd.Intn(6) == 0 {
		return []string{"open s0", "open s1", "done m0", "done m1", "complete", "stuck", "can e0", "can e1", "did u0 e0", "a0 < 4", "a0 = 5", "a1 > a0", "true"}[rnd.Intn(13)]
	}
	if rnd.Intn(3) > 0 {
		return []string{"not", "AX", "EX", "AF", "EF", "AG", "EG", "AG", "AF"}[rnd.Intn(9)] + " (" + anyProperty(rnd, deep-1) + ")"
	}
	a, b := anyProperty(rnd, deep-1), anyProperty(rnd, deep-1)
	switch rnd.Intn(5) {
	case 0:
		return "A [" + a + " U " + b + "]"
	case 1:
		return "E [" + a + " U " + b + "]"
	case 2:
		return "not E [" + a + " U " + b + "]"
	case 3:
		return "(" + a + ") and (" + b + ")"
	}
	return "(" + a + ") implies (" + b + ")"
}

// concrete are all states that can be reached with numbers from a window, and what follows each.
func concrete(m api.Model, most int) ([]api.State, [][]int) {
	states := []api.State{step.Begin(m)}
	numbers := map[string]int{state.Text(states[0]): 0}
	var next [][]int
	for at := 0; at < len(states); at++ {
		if len(states) > most {
			return nil, nil
		}
		var l []int
		for _, v := range step.Moves(m, states[at]) {
			for n := int64(-7); n < 14; n++ {
				if len(v.Vals) > 0 {
					v.Vals[0] = n
				} else if n > -7 {
					break
				}
				s, _ := step.Do(m, states[at], v)
				k, ok := numbers[state.Text(s)]
				if !ok {
					k = len(states)
					numbers[state.Text(s)] = k
					states = append(states, s)
				}
				l = append(l, k)
			}
		}
		next = append(next, l)
	}
	return states, next
}

// holds asks all states.
func holds(m api.Model, states []api.State, next [][]int, l []api.Inst) bool {
	steps, own, _ := norm.Steps(l)
	known := make([][]bool, len(steps))
	for i, x := range steps {
		switch x.Op {
		case api.OpNot:
			known[i] = label.Not(known[x.A])
		case api.OpAnd:
			known[i] = label.And(known[x.A], known[x.B])
		case api.OpEX:
			known[i] = label.EX(next, known[x.A])
		case api.OpEU:
			known[i] = label.EU(next, known[x.A], known[x.B])
		case api.OpEG:
			known[i] = label.EG(next, known[x.A])
		default:
			for _, s := range states {
				known[i] = append(known[i], atoms.On(m, s, x.At))
			}
		}
	}
	return known[own][0]
}

func TestAnyModels(t *testing.T) {
	rnd := rand.New(rand.NewSource(42))
	kinds := map[int]int{}
	traces := 0
	for range 400 {
		text := anyModel(rnd)
		m, f, _ := model.Read(text)
		if f.Err != api.OK {
			continue
		}
		states, next := concrete(m, 3000)
		if states == nil {
			continue
		}
		for range 8 {
			prop := anyProperty(rnd, 1+rnd.Intn(3))
			a := verify.Verify(text, prop, 5000)
			kinds[a.Kind]++
			if again := verify.Verify(text, prop, 5001); again != a {
				t.Fatal(text, prop, "another answer for a greater budget", a, again)
			}
			if a.Kind != verify.Holds && a.Kind != verify.Fails {
				continue
			}
			l := property(t, m, prop)
			if want := holds(m, states, next, l); want != (a.Kind == verify.Holds) {
				t.Fatal(text, prop, a, want)
			}
			f, refutes := frag.Of(l)
			if a.Kind == verify.Holds || !refutes {
				if a.Trace != "" {
					t.Fatal(text, prop, a)
				}
				continue
			}
			traces++
			if n, f, part := replay.Text(text, a.Trace); part != 0 {
				t.Fatal(text, prop, a, n, f, part)
			}
			w, _ := trace.Read(m, a.Trace)
			through, to := f.Through, f.To
			if w.Loop >= 0 {
				through, to = f.In, f.In
			}
			if shows, e := replay.Shows(m, w, through, to); !shows || e != api.OK {
				t.Fatal(text, prop, a, e)
			}
		}
	}
	if kinds[verify.Holds] < 100 || kinds[verify.Fails] < 100 || traces < 60 {
		t.Error("too few of a kind", kinds, traces)
	}
}
