package whole

import (
	"math"
	"math/rand"
	"testing"

	"warder/api"
	"warder/atoms"
	"warder/bind"
	"warder/bits"
	"warder/bound"
	"warder/bstep"
	"warder/check"
	"warder/cond"
	"warder/decl"
	"warder/desk"
	"warder/dot"
	"warder/drop"
	"warder/eval"
	"warder/frag"
	"warder/graph"
	"warder/halve"
	"warder/label"
	"warder/lint"
	"warder/model"
	"warder/names"
	"warder/nest"
	"warder/node"
	"warder/norm"
	"warder/num"
	"warder/page"
	"warder/path"
	"warder/pick"
	"warder/put"
	"warder/quot"
	"warder/reach"
	"warder/replay"
	"warder/rights"
	"warder/run"
	"warder/show"
	"warder/shrink"
	"warder/sim"
	"warder/sod"
	"warder/state"
	"warder/step"
	"warder/strata"
	"warder/succ"
	"warder/table"
	"warder/text"
	"warder/token"
	"warder/trace"
	"warder/tree"
	"warder/verify"
	"warder/write"
	"warder/zeval"
	"warder/zone"
)

// odd makes things of any plain fields, most of which may not be.
type odd struct{ *rand.Rand }

// small is a number that is mostly small.
func (k odd) small() int {
	if k.Intn(12) == 0 {
		return []int{math.MinInt, math.MaxInt, -1, 31, 32, 63, 64, 1 << 31, 1<<40 + 1}[k.Intn(9)]
	}
	return k.Intn(6) - 1
}

// few is how many, or how many writes are left: such as end soon.
func (k odd) few() int { return []int{math.MinInt, -1, 0, 1, 2, 3}[k.Intn(6)] }

func (k odd) num() int64 { return int64(k.small()) }

func list[T any](k odd, of func() T) []T {
	var l []T
	for range k.Intn(4) {
		l = append(l, of())
	}
	return l
}

func (k odd) text() string {
	return []string{"", "a", "u", "e", "s", "A", "in", "\xff", "a b", "abcdefghijklmnopq"}[k.Intn(10)]
}

func (k odd) word() api.Word { return api.Word{Name: k.text(), Num: k.num()} }

func (k odd) op() int {
	if k.Intn(15) == 0 {
		return k.small()
	}
	return 1 + k.Intn(27)
}

func (k odd) item() api.Item {
	return api.Item{Op: k.op(), L: k.word(), R: k.word(), Name: k.text(), User: k.text(), At: api.Pos{Line: k.small(), Col: k.small()}}
}

func (k odd) inst() api.Inst {
	return api.Inst{Op: k.op(), L: api.Val{Attr: k.small(), Num: k.num()}, R: api.Val{Attr: k.small(), Num: k.num()}, N: k.small(), User: k.small()}
}

func (k odd) insts() []api.Inst {
	if k.Intn(2) == 0 {
		return []api.Inst{{Op: api.OpTrue}}
	}
	return list(k, k.inst)
}

func (k odd) stmt() api.Stmt {
	return api.Stmt{Kind: k.small(), Name: k.text(), Names: list(k, k.text), Role: k.text(), Stage: k.text(), Event: k.text(), Times: k.small(), If: list(k, k.item), Final: k.Intn(2) == 0, Init: k.num()}
}

func (k odd) token() api.Token {
	return api.Token{Kind: k.Intn(7), Text: []string{"a", "u", "not", "(", ")", "attr", "user", "role", "event", "guard", "if", "=", ";", "5", "true", "U", "A", "["}[k.Intn(18)], Num: k.num()}
}

func (k odd) model() api.Model {
	m := api.Model{Attrs: list(k, k.text), Inits: list(k, k.num), Users: list(k, k.text)}
	m.Roles = list(k, func() api.Role { return api.Role{Name: k.text(), Users: k.small()} })
	m.Stages = list(k, func() api.Stage { return api.Stage{Name: k.text(), Parent: k.small()} })
	for range k.Intn(3) {
		e := api.Event{Name: k.text(), Role: k.small(), Stage: k.small(), Times: k.Intn(4) - 1}
		if k.Intn(2) == 0 {
			e.Sets = []int{k.small()}
		}
		m.Events = append(m.Events, e)
	}
	m.Guards = list(k, func() api.Guard { return api.Guard{Stage: k.small(), Event: k.small(), If: k.insts()} })
	m.Miles = list(k, func() api.Mile {
		return api.Mile{Name: k.text(), Stage: k.small(), Event: k.small(), If: k.insts(), Final: k.Intn(2) == 0}
	})
	m.Sods = list(k, func() api.Sod { return api.Sod{A: k.small(), B: k.small()} })
	m.Order = list(k, func() api.Sentry { return api.Sentry{Mile: k.Intn(2) == 0, N: k.small()} })
	return m
}

func (k odd) state() api.State {
	return api.State{Vals: list(k, k.num), Open: k.small(), Done: k.small(), Did: list(k, k.small), Count: list(k, k.small)}
}

func (k odd) zone() api.Zone {
	return api.Zone{Classes: list(k, func() api.Class { return api.Class{Attrs: k.small(), Const: k.small()} }), Gaps: list(k, k.small)}
}

func (k odd) node() api.Node {
	return api.Node{Zone: k.zone(), Open: k.small(), Done: k.small(), Did: list(k, k.small), Count: list(k, k.small)}
}

func (k odd) graph() graph.Graph {
	return graph.Graph{Nodes: list(k, k.node), Edges: list(k, func() []api.Edge {
		return list(k, func() api.Edge { return api.Edge{Event: k.small(), User: k.small(), To: k.small()} })
	})}
}

func (k odd) move() api.Move {
	return api.Move{Event: k.small(), User: k.small(), Vals: list(k, k.num)}
}

func (k odd) next() [][]int { return list(k, func() []int { return list(k, k.small) }) }

func (k odd) set() []bool { return list(k, func() bool { return k.Intn(2) == 0 }) }

// R1: no call panics, and each ends, at all arguments.
func TestNothingPanics(t *testing.T) {
	k := odd{rand.New(rand.NewSource(100))}
	for range 6000 {
		k.texts()
		k.formulas()
		k.cases()
		k.zones()
		k.graphs()
		k.wholes()
	}
}

func (k odd) texts() {
	s := k.text()
	text.Runes(s)
	text.At(s, k.small())
	text.Line(s, k.small())
	token.Tokens(s)
	num.Read(s)
	num.Add(k.num(), k.num())
	num.Gap(k.num(), k.num(), k.small())
	num.Find(list(k, k.num), k.num())
	l := list(k, k.token)
	cond.Read(l, k.small(), k.Intn(2) == 0)
	cond.Whole(s, true)
	decl.One(l, k.small())
	decl.Read(s)
	page.Text(list(k, k.stmt))
	x, _ := names.Build(list(k, k.stmt))
	x.Find(s)
	x.Name(k.small(), k.small())
	x.Count(k.small())
	x.Need(s, k.small())
	show.Name(s)
	show.Sign(k.small())
	y := table.New(k.small())
	y.Put(s)
	y.Text(k.small())
	state.Read(s)
}

func (k odd) formulas() {
	items := list(k, k.item)
	tree.Check(items)
	tree.Deep(items)
	tree.Start(items, k.small())
	tree.Kids(items, k.small())
	tree.Put(k.op(), items, list(k, k.item))
	tree.Same(items, list(k, k.item))
	show.Formula(items)
	bind.Formula(nil, items)
	l := k.insts()
	bind.Check(k.model(), l, k.Intn(2) == 0)
	bind.Numbers(l)
	bind.Attrs(l)
	norm.Steps(l)
	norm.Check(list(k, func() norm.Step { return norm.Step{Op: k.op(), A: k.small(), B: k.small(), At: k.inst()} }))
	frag.Of(l)
	frag.Timeless(l)
	lint.Idle(l)
	eval.Holds(l, k.state())
	eval.Compare(k.op(), k.num(), k.num())
	eval.Sides(l, func(a, b api.Val) int { return k.small() }, k.state())
	eval.Sides(l, nil, k.state())
	nest.Circle(list(k, k.small))
	nest.Above(list(k, k.small), k.small())
	nest.Below(list(k, k.small), k.small())
	bits.List(bits.With(k.small(), k.small()))
	bits.Of(list(k, k.small)...)
	bits.First(k.small())
}

func (k odd) cases() {
	m, s := k.model(), k.state()
	if k.Intn(2) == 0 {
		s = step.Begin(m)
	}
	strata.Order(m)
	x := api.Sentry{Mile: k.Intn(2) == 0, N: k.small()}
	strata.Waits(m, x, api.Sentry{N: k.small()})
	model.Check(m)
	model.Build(list(k, k.stmt))
	model.Consts(m, k.insts())
	model.Property(m, "open s and a < 3")
	state.Start(m)
	state.Check(m, s)
	state.Sound(m, s)
	state.Left(m, list(k, k.small))
	state.Text(s)
	rights.Free(m, s, k.small(), k.small())
	rights.Enabled(m, s, k.small(), k.small())
	rights.Stuck(m, s)
	rights.Who(m, s, k.small())
	rights.Any(m, s)
	bstep.Pass(m, s, k.small())
	bstep.Ready(m, s, x, k.small())
	bstep.Fires(m, s, x, k.small())
	bstep.Fire(m, s, x)
	bstep.Cond(m, x)
	step.May(m, s, k.move())
	step.Do(m, s, k.move())
	step.Moves(m, s)
	l := list(k, k.move)
	run.All(m, l)
	run.Last(m, l)
	run.Loops(m, l, k.small())
	trace.Text(m, trace.Trace{Moves: l, Loop: k.small()})
	trace.Read(m, "e by u; idle; loop;")
	replay.Moves(m, trace.Trace{Moves: l, Loop: k.small()})
	replay.Holds(m, k.insts(), s)
	replay.Shows(m, trace.Trace{Moves: l, Loop: k.small()}, k.insts(), k.insts())
	replay.Text(k.text(), k.text())
	shrink.Moves(m, l, nil)
	atoms.On(m, s, k.inst())
	sod.Kept(m, s)
	sod.Pairs(m)
	sod.Loose(m, list(k, k.small))
}

func (k odd) zones() {
	z, consts, r := k.zone(), list(k, k.num), k.few()
	if k.Intn(2) == 0 {
		z = zone.Of(list(k, k.num), consts, r)
	}
	halve.Splits(k.small(), k.few())
	halve.Merge(k.small(), k.small(), k.small())
	zone.Of(list(k, k.num), consts, k.small())
	zone.Check(z, k.small(), consts, r)
	zone.Sample(z, k.small(), consts, r)
	zone.Place(z, consts, api.Val{Attr: k.small(), Num: k.num()})
	zone.Text(z)
	zone.Same(z, k.zone())
	drop.Drop(z, k.small(), k.small())
	drop.All(z, list(k, k.small), k.small())
	put.Put(z, k.small(), r)
	put.Count(z, r)
	write.Write(z, list(k, k.small), r)
	write.Less(z, k.zone())
	zeval.Holds(k.insts(), z, consts, k.state())
	zeval.Knows(k.insts(), z, consts)
	pick.Number(z, k.small(), list(k, k.num), consts, k.small())
	pick.Vals(z, k.zone(), list(k, k.small), list(k, k.num), consts, r)
}

func (k odd) graphs() {
	m, n, consts, g := k.model(), k.node(), list(k, k.num), k.graph()
	if k.Intn(2) == 0 {
		n = node.Begin(m, consts)
	}
	node.Of(m, consts, k.state())
	node.Check(m, consts, n)
	node.Sample(m, consts, n)
	node.Text(n)
	succ.Next(m, consts, n)
	succ.Pass(m, consts, n, k.small())
	graph.Explore(m, consts, k.few())
	graph.Next(g)
	graph.Find(g, n)
	atoms.At(m, consts, n, k.inst())
	check.Label(m, consts, g, k.insts())
	check.Holds(m, consts, g, k.insts())
	pick.Move(m, consts, k.state(), k.small(), k.small(), n)
	pick.Way(m, consts, g, list(k, k.small))
	verify.Witness(m, consts, g, append(k.insts(), api.Inst{Op: api.OpAG}))
	reach.At(m, consts, g, k.inst())
	dot.Graph(m, consts, g)
	dot.Size(g)
	dot.Zone(m, consts, n.Zone)
	next, a := k.next(), k.set()
	label.EX(next, a)
	label.EU(next, a, k.set())
	label.EG(next, a)
	label.And(a, k.set())
	path.Shortest(next, k.small(), a, k.set())
	path.Lasso(next, k.small(), a)
	path.Ends(next, k.small(), list(k, k.small))
	quot.Classes(next, list(k, k.small))
	quot.Fit(next, list(k, k.small), list(k, k.small))
	quot.Shrunk(next, list(k, k.small))
}

func (k odd) wholes() {
	m := k.model()
	bound.Nodes(m, k.small())
	bound.Power(k.small(), k.small())
	sod.Deadlock(m, k.few())
	r, _ := reach.Ask(m, k.few())
	r.Stages, r.Miles, r.Events, r.Must = k.small(), k.small(), k.small(), k.small()
	reach.Never(m, r)
	reach.Text(m, r)
	lint.Notes(m)
	lint.Text(m, list(k, func() lint.Note { return lint.Note{Code: k.small(), N: k.small()} }))
	sim.Run(m, k.Uint64(), k.few())
	verify.Word(k.small())
	verify.Verify(k.text(), k.text(), k.small())
	shrink.List(list(k, k.stmt), func([]api.Stmt) bool { return k.Intn(2) == 0 })
	desk.New().Run(k.text() + " " + k.text())
}
