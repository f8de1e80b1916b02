package whole

import (
	"math"
	"math/rand"
	"reflect"
	"slices"
	"strings"
	"testing"

	"warder/api"
	"warder/atoms"
	"warder/bound"
	"warder/check"
	"warder/cond"
	"warder/decl"
	"warder/frag"
	"warder/graph"
	"warder/label"
	"warder/model"
	"warder/node"
	"warder/norm"
	"warder/page"
	"warder/reach"
	"warder/replay"
	"warder/rights"
	"warder/run"
	"warder/show"
	"warder/sim"
	"warder/sod"
	"warder/state"
	"warder/step"
	"warder/trace"
	"warder/verify"
)

const budget = 20000

// The examples of the whole.
func TestTenExamples(t *testing.T) {
	alone := strings.NewReplacer("user v; ", "", "r = u v", "r = u").Replace(example)
	for i, x := range []struct {
		m, prop string
		budget  int
		want    verify.Answer
	}{
		{example, "AG (done k implies done l)", budget, verify.Answer{Kind: verify.Holds}},
		{example, "AG not complete", budget, verify.Answer{Kind: verify.Fails, Trace: "e by u sets a = 6;\ng by v;\n"}},
		{example, "AF complete", budget, verify.Answer{Kind: verify.Fails, Trace: "e by u sets a = 4;\nloop;\nidle;\n"}},
		{example, "EF stuck", budget, verify.Answer{Kind: verify.Fails}},
		{alone, "not EF stuck", budget, verify.Answer{Kind: verify.Fails, Trace: "e by u sets a = 6;\n"}},
		{example, "AG EF complete", budget, verify.Answer{Kind: verify.Fails}},
		{example, "open", budget, verify.Answer{Kind: verify.ParseError, Part: 2, Fault: api.Fault{Err: api.ErrToken, At: api.Pos{Line: 1, Col: 5}}}},
		{example, "open q", budget, verify.Answer{Kind: verify.IllFormed, Part: 2, Fault: api.Fault{Err: api.ErrName, At: api.Pos{Line: 1, Col: 6}}}},
		{example, "true", 2, verify.Answer{Kind: verify.BudgetExceeded}},
		{"attr a = 9223372036854775807; user u; role r = u; stage s; guard s; event e by r in s sets a max 1;", "AG a <= 9223372036854775807", budget, verify.Answer{Kind: verify.WitnessRange}},
	} {
		if a := verify.Verify(x.m, x.prop, x.budget); a != x.want {
			t.Errorf("%d: %+v", i+1, a)
		}
	}
	if n := node.Begin(read(t, example), []int64{5}); node.Text(n) != "1:-1 1 0:0 / 0 1 0 2 0 0 2 0 0" {
		t.Error(10, node.Text(n))
	}
}

// P1: for any two texts and any budget there is just one answer, of one of six kinds.
func TestP1(t *testing.T) {
	k := &maker{Rand: rand.New(rand.NewSource(1))}
	pieces := []string{";", " ", "attr", "user u;", "stage s;", "guard s", "if", "a0", "< 3", "(", ")", "AG", "\xff", "\n", "#", "99999999999999999999", "-", "open s0", "U", "[", "]", "max 4", "in", "sets", "€"}
	broken := func(s string) string {
		for range k.Intn(3) {
			at := k.Intn(len(s) + 1)
			to := min(len(s), at+k.Intn(4))
			s = s[:at] + k.of(pieces...) + s[to:]
		}
		return s
	}
	kinds := map[int]int{}
	for range 4000 {
		m, p := broken(k.model()), broken(k.property(3))
		b := []int{budget, 5, 1, 0, -1, math.MaxInt, math.MinInt}[k.Intn(7)]
		a := verify.Verify(m, p, b)
		kinds[a.Kind]++
		if verify.Word(a.Kind) == "" || a != verify.Verify(m, p, b) {
			t.Fatal(m, p, b, a)
		}
		told := a.Kind == verify.ParseError || a.Kind == verify.IllFormed
		if told != (a.Part == 1 || a.Part == 2) || told != (a.Fault.Err != api.OK) || a.Trace != "" && a.Kind != verify.Fails {
			t.Fatal(m, p, b, a)
		}
	}
	for kind := verify.Holds; kind <= verify.BudgetExceeded; kind++ {
		if kinds[kind] < 20 {
			t.Error("too few of a kind", kinds)
		}
	}
}

// concrete are all states that can be reached with numbers from a window that is wide enough, and what follows each; nil, if they are too many.
func concrete(m api.Model) ([]api.State, [][]int) {
	states := []api.State{step.Begin(m)}
	numbers := map[string]int{state.Text(states[0]): 0}
	var next [][]int
	for at := 0; at < len(states); at++ {
		if len(states) > 4000 {
			return nil, nil
		}
		var l []int
		for _, v := range step.Moves(m, states[at]) {
			from, to := int64(0), int64(0)
			if len(v.Vals) > 0 {
				from, to = -7, 14
			}
			for n := from; n <= to; n++ {
				for i := range v.Vals {
					v.Vals[i] = n
				}
				s, _ := step.Do(m, states[at], v)
				i, ok := numbers[state.Text(s)]
				if !ok {
					i = len(states)
					numbers[state.Text(s)] = i
					states = append(states, s)
				}
				l = append(l, i)
			}
		}
		next = append(next, l)
	}
	return states, next
}

// labels asks all states.
func labels(m api.Model, states []api.State, next [][]int, l []api.Inst) []bool {
	steps, own, _ := norm.Steps(l)
	known := make([][]bool, len(steps))
	for i, x := range steps {
		switch x.Op {
		case api.OpNot:
			known[i] = label.Not(known[x.A])
		case api.OpAnd:
			known[i] = label.And(known[x.A], known[x.B])
		case api.OpEX:
			known[i] = label.EX(next, known[x.A])
		case api.OpEU:
			known[i] = label.EU(next, known[x.A], known[x.B])
		case api.OpEG:
			known[i] = label.EG(next, known[x.A])
		default:
			for _, s := range states {
				known[i] = append(known[i], atoms.On(m, s, x.At))
			}
		}
	}
	return known[own]
}

// P2, P3, P4: it decides as all states do; what it tells replays, and refutes; states and nodes go together.
func TestP2P3P4(t *testing.T) {
	kinds, traces := map[int]int{}, 0
	models(2, 250, func(k *maker, text string) {
		m := read(t, text)
		states, next := concrete(m)
		if states == nil {
			return
		}
		for range 6 {
			prop := k.property(1 + k.Intn(3))
			a := verify.Verify(text, prop, budget)
			kinds[a.Kind]++
			if a.Kind == verify.IllFormed {
				continue
			}
			l := property(t, m, prop)
			consts := model.Consts(m, l)
			if n := bound.Nodes(m, len(consts)); n < budget && a.Kind == verify.BudgetExceeded {
				t.Fatal(text, prop, "the bound is no bound", n)
			}
			if a.Kind == verify.BudgetExceeded {
				continue
			}
			want := labels(m, states, next, l)
			if want[0] != (a.Kind == verify.Holds) {
				t.Fatal(text, prop, a, want[0])
			}
			together(t, text, states, next, consts, l, want)
			if refutes(t, text, prop, a) {
				traces++
			}
		}
	})
	if kinds[verify.Holds] < 100 || kinds[verify.Fails] < 100 || traces < 60 {
		t.Error("too few of a kind", kinds, traces)
	}
}

// together tells whether each state lies in a node in which the same holds, each node has a state, and what follows the one follows the other.
func together(t *testing.T, text string, states []api.State, next [][]int, consts []int64, l []api.Inst, want []bool) {
	m := read(t, text)
	g, e := graph.Explore(m, consts, budget)
	if e != api.OK {
		t.Fatal(text, e)
	}
	holds, _ := check.Label(m, consts, g, l)
	places := map[string]int{}
	for i, n := range g.Nodes {
		places[node.Text(n)] = i
	}
	at := make([]int, len(states))
	came := make([]bool, len(g.Nodes))
	for i, s := range states {
		n, ok := places[node.Text(node.Of(m, consts, s))]
		if !ok || holds[n] != want[i] {
			t.Fatal(text, l, state.Text(s))
		}
		at[i], came[n] = n, true
	}
	if slices.Contains(came, false) || len(places) != len(g.Nodes) {
		t.Fatal(text, "a node without a state")
	}
	follow := make([][]int, len(g.Nodes))
	for i := range states {
		for _, k := range next[i] {
			follow[at[i]] = append(follow[at[i]], at[k])
		}
	}
	for i, l := range graph.Next(g) {
		for _, both := range [][]int{l, follow[i]} {
			slices.Sort(both)
		}
		if !slices.Equal(slices.Compact(l), slices.Compact(follow[i])) {
			t.Fatal(text, "what follows a node", l, follow[i])
		}
	}
}

// refutes tells whether an answer has a trace, and asks whether that is one that refutes the property.
func refutes(t *testing.T, text, prop string, a verify.Answer) bool {
	m := read(t, text)
	f, ok := frag.Of(property(t, m, prop))
	if a.Kind != verify.Fails || !ok {
		if a.Trace != "" {
			t.Fatal(text, prop, a)
		}
		return false
	}
	n, fault, part := replay.Text(text, a.Trace)
	w, _ := trace.Read(m, a.Trace)
	if part != 0 || n != len(w.Moves) {
		t.Fatal(text, prop, a, fault, part)
	}
	through, to := f.Through, f.To
	if w.Loop >= 0 {
		through, to = f.In, f.In
	}
	if shows, e := replay.Shows(m, w, through, to); !shows || e != api.OK {
		t.Fatal(text, prop, a, e)
	}
	return true
}

// P5: no run, by whatever chance, refutes what is told to hold.
func TestP5(t *testing.T) {
	asked := 0
	models(3, 300, func(k *maker, text string) {
		m := read(t, text)
		for range 6 {
			prop := k.of("AG", "AF", "not EF", "not EG") + " (" + k.of("", "not ") + "(" + k.property(0) + "))"
			if verify.Verify(text, prop, budget).Kind != verify.Holds {
				continue
			}
			f, _ := frag.Of(property(t, m, prop))
			for range 4 {
				l, _ := sim.Run(m, k.Uint64(), 12)
				all, e := run.All(m, l)
				if e != api.OK {
					t.Fatal(text, e)
				}
				for n := range all {
					if refuting(m, f, l[:n], all[:n+1]) {
						t.Fatal(text, prop, l[:n])
					}
					asked++
				}
			}
		}
	})
	if asked < 5000 {
		t.Error("too few runs", asked)
	}
}

// refuting tells whether a run refutes a property that holds just if no run is such a path, or such a lasso.
func refuting(m api.Model, f frag.Frag, l []api.Move, all []api.State) bool {
	if f.Path {
		if shows, _ := replay.Shows(m, trace.Trace{Moves: l, Loop: -1}, f.Through, f.To); shows {
			return true
		}
	}
	if f.Lasso {
		for i := range l {
			if state.Same(all[i], all[len(l)]) {
				if shows, _ := replay.Shows(m, trace.Trace{Moves: l, Loop: i}, f.In, f.In); shows {
					return true
				}
			}
		}
	}
	return false
}

// P6: only order counts.
func TestP6(t *testing.T) {
	compared := map[int]int{}
	for seed := range int64(1200) {
		var first, size int
		for i, k := range []*maker{{}, {moved: 1000}, {moved: -77}, {turned: true}, {turned: true, moved: 5}} {
			k.Rand = rand.New(rand.NewSource(seed))
			text := k.model()
			if !isModel(text) {
				break
			}
			prop := k.property(3)
			kind := verify.Verify(text, prop, budget).Kind
			m := read(t, text)
			g, _ := graph.Explore(m, model.Consts(m, nil), budget)
			if i == 0 {
				first, size = kind, len(g.Nodes)
				compared[kind]++
			} else if kind != first || len(g.Nodes) != size {
				t.Fatal(text, prop, kind, first, len(g.Nodes), size)
			}
		}
	}
	if compared[verify.Holds] < 60 || compared[verify.Fails] < 60 {
		t.Error("too few", compared)
	}
}

// P7: parts tell alike; a deadlock is told just if a state can be reached that is one.
func TestP7(t *testing.T) {
	found := [2]int{}
	models(7, 250, func(k *maker, text string) {
		m := read(t, text)
		r, e := reach.Ask(m, budget)
		if e != api.OK {
			return
		}
		holds := func(prop string) bool { return verify.Verify(text, prop, budget).Kind == verify.Holds }
		for i, s := range m.Stages {
			if holds("EF open "+s.Name) != (r.Stages>>i&1 == 1) {
				t.Fatal(text, s.Name)
			}
		}
		for i, x := range m.Miles {
			if holds("EF done "+x.Name) != (r.Miles>>i&1 == 1) || holds("AF done "+x.Name) != (r.Must>>i&1 == 1) {
				t.Fatal(text, x.Name)
			}
		}
		for i, x := range m.Events {
			if holds("EF can "+x.Name) != (r.Events>>i&1 == 1) {
				t.Fatal(text, x.Name)
			}
		}
		x, stuck, e := sod.Deadlock(m, budget)
		if holds("EF complete") != r.Complete || holds("EF stuck") != r.Stuck || stuck != r.Stuck || e != api.OK {
			t.Fatal(text, r, stuck, e)
		}
		states, _ := concrete(m)
		if states == nil {
			return
		}
		is := slices.ContainsFunc(states, func(s api.State) bool { return isDeadlock(m, s) })
		if is != stuck {
			t.Fatal(text, is, stuck)
		}
		if stuck {
			found[1]++
			all, _ := replay.Moves(m, x)
			if !isDeadlock(m, all[len(all)-1]) {
				t.Fatal(text, x)
			}
		} else {
			found[0]++
		}
	})
	if found[0] < 50 || found[1] < 15 {
		t.Error("too few of a kind", found)
	}
}

// isDeadlock is what the words of the whole say of a deadlock.
func isDeadlock(m api.Model, s api.State) bool {
	loose := sod.Loose(m, []int{0, 1, 2, 3, 4, 5})
	return s.Open != 0 && !rights.Complete(m, s) && !rights.Any(m, s) && rights.Any(loose, s)
}

// P8: what is told as texts is read as it was, and answered as it was.
func TestP8(t *testing.T) {
	models(8, 300, func(k *maker, text string) {
		l, _ := decl.Read(text)
		told, e := page.Text(l)
		if e != api.OK || !reflect.DeepEqual(read(t, told), read(t, text)) {
			t.Fatal(text, told, e)
		}
		m := read(t, text)
		for range 4 {
			prop := k.property(3)
			items, f := cond.Whole(prop, true)
			if f.Err != api.OK {
				t.Fatal(prop, f)
			}
			again, e := show.Formula(items)
			a, b := verify.Verify(text, prop, budget), verify.Verify(told, again, budget)
			a.Fault.At, b.Fault.At = api.Pos{}, api.Pos{}
			if e != api.OK || a != b {
				t.Fatal(text, prop, again, a, b)
			}
			if a.Trace == "" {
				continue
			}
			w, f := trace.Read(m, a.Trace)
			s, e := trace.Text(m, w)
			if f.Err != api.OK || e != api.OK || s != a.Trace {
				t.Fatal(text, a.Trace, s)
			}
		}
		// just those texts replay that are runs
		moves, _ := sim.Run(m, k.Uint64(), 4)
		if n := k.Intn(4); k.Intn(2) == 0 && moves[n].Event >= 0 {
			moves[n].User = k.Intn(len(m.Users))
		}
		s, _ := trace.Text(m, trace.Trace{Moves: moves, Loop: -1})
		_, e = run.All(m, moves)
		if n, f, part := replay.Text(text, s); (part == 0) != (e == api.OK) || f.Err != e || part == 0 && n != len(moves) {
			t.Fatal(text, s, e, f, part)
		}
	})
}
