package atoms_test

import (
	"math"
	"math/rand"
	"slices"
	"testing"

	"warder/api"
	"warder/atoms"
	"warder/model"
	"warder/node"
	"warder/rights"
)

const example = `attr a = 1; attr b = 5; user u; user v; role r = u v; stage s; stage t in s;
event e by r in s sets b, a max 1; event g by r in t; guard s; guard t on e if a > 5;
milestone k of t on g; milestone l of s if done k final; sod e, g;`

func read(t *testing.T, s string) api.Model {
	t.Helper()
	m, f, _ := model.Read(s)
	if f.Err != api.OK {
		t.Fatal(s, f)
	}
	return m
}

func attr(n int) api.Val { return api.Val{Attr: n} }

func number(n int64) api.Val { return api.Val{Attr: -1, Num: n} }

func TestAtoms(t *testing.T) {
	m := read(t, example)
	consts := []int64{5}
	s := api.State{Vals: []int64{7, 5}, Open: 2, Done: 1, Did: []int{1, 2}, Count: []int{1, 0}}
	for i, x := range []struct {
		x    api.Inst
		want bool
	}{
		{api.Inst{Op: api.OpTrue}, true}, {api.Inst{Op: api.OpFalse}, false}, {api.Inst{Op: api.OpOpen, N: 1}, true}, {api.Inst{Op: api.OpOpen, N: 0}, false}, {api.Inst{Op: api.OpOpen, N: -1}, false}, {api.Inst{Op: api.OpDone, N: 0}, true}, {api.Inst{Op: api.OpDone, N: 1}, false}, {api.Inst{Op: api.OpDone, N: 99}, false},
		{api.Inst{Op: api.OpLess, L: attr(1), R: attr(0)}, true}, {api.Inst{Op: api.OpLess, L: attr(0), R: number(5)}, false}, {api.Inst{Op: api.OpAtMost, L: number(5), R: attr(1)}, true}, {api.Inst{Op: api.OpMore, L: attr(0), R: number(5)}, true}, {api.Inst{Op: api.OpAtLeast, L: attr(1), R: attr(0)}, false}, {api.Inst{Op: api.OpEqual, L: attr(1), R: number(5)}, true}, {api.Inst{Op: api.OpOther, L: attr(0), R: attr(0)}, false}, {api.Inst{Op: api.OpOther, L: attr(0), R: attr(1)}, true},
		{api.Inst{Op: api.OpEqual, L: attr(2), R: attr(2)}, false}, {api.Inst{Op: api.OpOther, L: attr(0), R: attr(-2)}, false}, {api.Inst{Op: api.OpLess, L: attr(0), R: attr(math.MaxInt)}, false},
		{api.Inst{Op: api.OpCan, N: 0}, false}, {api.Inst{Op: api.OpCan, N: 1}, true}, {api.Inst{Op: api.OpCan, N: 2}, false}, {api.Inst{Op: api.OpCan, N: -1}, false},
		{api.Inst{Op: api.OpDid, N: 0, User: 0}, true}, {api.Inst{Op: api.OpDid, N: 0, User: 1}, false}, {api.Inst{Op: api.OpDid, N: 1, User: 1}, true}, {api.Inst{Op: api.OpDid, N: 1, User: 0}, false}, {api.Inst{Op: api.OpDid, N: 2, User: 0}, false}, {api.Inst{Op: api.OpDid, N: -1, User: 0}, false}, {api.Inst{Op: api.OpDid, N: 0, User: -1}, false}, {api.Inst{Op: api.OpDid, N: 0, User: 64}, false},
		{api.Inst{Op: api.OpComplete}, false}, {api.Inst{Op: api.OpStuck}, false},
		{api.Inst{Op: 0}, false}, {api.Inst{Op: -1}, false}, {api.Inst{Op: api.OpNot}, false}, {api.Inst{Op: api.OpAnd}, false}, {api.Inst{Op: api.OpAX}, false}, {api.Inst{Op: api.OpEU}, false}, {api.Inst{Op: 99}, false},
	} {
		if g := atoms.On(m, s, x.x); g != x.want {
			t.Error(i, "on", g)
		}
		if g := atoms.At(m, consts, node.Of(m, consts, s), x.x); g != x.want {
			t.Error(i, "at", g)
		}
	}
	s.Done = 2
	if !atoms.On(m, s, api.Inst{Op: api.OpComplete}) || !atoms.At(m, consts, node.Of(m, consts, s), api.Inst{Op: api.OpComplete}) {
		t.Error("complete")
	}
	s.Done, s.Did = 0, []int{3, 0}
	if !atoms.On(m, s, api.Inst{Op: api.OpStuck}) || !atoms.At(m, consts, node.Of(m, consts, s), api.Inst{Op: api.OpStuck}) {
		t.Error("stuck")
	}
	// a number that is no constant is in no class of a node
	x := api.Inst{Op: api.OpLess, L: attr(0), R: number(100)}
	if !atoms.On(m, s, x) || atoms.At(m, consts, node.Of(m, consts, s), x) {
		t.Error("a number that is no constant")
	}
	if atoms.On(api.Model{}, api.State{}, api.Inst{Op: api.OpDid}) || atoms.At(api.Model{}, nil, api.Node{}, api.Inst{Op: api.OpLess}) || !atoms.At(api.Model{}, nil, api.Node{}, api.Inst{Op: api.OpTrue}) {
		t.Error("of nothing")
	}
}

func TestLabel(t *testing.T) {
	m := read(t, example)
	consts := []int64{5}
	var l []api.Node
	for _, open := range []int{0, 1, 3, 2} {
		l = append(l, node.Of(m, consts, api.State{Vals: []int64{int64(open) + 3, 4}, Open: open, Did: []int{open, 0}, Count: []int{0, 0}}))
	}
	for i, x := range []struct {
		x    api.Inst
		want []bool
	}{
		{api.Inst{Op: api.OpOpen, N: 1}, []bool{false, false, true, true}}, {api.Inst{Op: api.OpLess, L: attr(0), R: number(5)}, []bool{true, true, false, false}}, {api.Inst{Op: api.OpDid, N: 0, User: 0}, []bool{false, true, true, false}}, {api.Inst{Op: api.OpCan, N: 0}, []bool{false, true, true, false}}, {api.Inst{Op: api.OpNot}, []bool{false, false, false, false}},
	} {
		if g := atoms.Label(m, consts, l, x.x); !slices.Equal(g, x.want) {
			t.Error(i, g)
		}
	}
	if len(atoms.Label(m, consts, nil, api.Inst{Op: api.OpTrue})) != 0 {
		t.Error("no nodes")
	}
}

func TestStatesAndTheirNodes(t *testing.T) {
	m := read(t, example)
	rnd := rand.New(rand.NewSource(34))
	consts := []int64{2, 5, 8}
	seen := map[int]int{}
	for range 6000 {
		s := api.State{Vals: []int64{int64(rnd.Intn(10)), int64(rnd.Intn(10))}, Open: rnd.Intn(4), Done: rnd.Intn(4), Did: []int{rnd.Intn(4), rnd.Intn(4)}, Count: []int{rnd.Intn(2), 0}}
		val := func() api.Val {
			if rnd.Intn(2) == 0 {
				return number(consts[rnd.Intn(3)])
			}
			return attr(rnd.Intn(2))
		}
		x := api.Inst{Op: 1 + rnd.Intn(14), L: val(), R: val(), N: rnd.Intn(2), User: rnd.Intn(2)}
		on := atoms.On(m, s, x)
		if on != atoms.At(m, consts, node.Of(m, consts, s), x) {
			t.Fatal(s, x)
		}
		if on {
			seen[x.Op]++
		}
		switch x.Op {
		case api.OpCan:
			if on != (len(rights.Who(m, s, x.N)) > 0) {
				t.Fatal(s, x)
			}
		case api.OpComplete:
			if on != rights.Complete(m, s) {
				t.Fatal(s, x)
			}
		case api.OpStuck:
			if on != rights.Stuck(m, s) {
				t.Fatal(s, x)
			}
		}
	}
	if len(seen) != 13 { // all but false
		t.Error("some never held", seen)
	}
}
