package norm_test

import (
	"math"
	"math/rand"
	"slices"
	"testing"

	"warder/api"
	"warder/norm"
	"warder/tree"
)

func atom(op int) norm.Step { return norm.Step{Op: op, At: api.Inst{Op: op}} }

func open(n int) norm.Step {
	return norm.Step{Op: api.OpOpen, At: api.Inst{Op: api.OpOpen, N: n}}
}

func not(a int) norm.Step { return norm.Step{Op: api.OpNot, A: a} }

func and(a, b int) norm.Step { return norm.Step{Op: api.OpAnd, A: a, B: b} }

func ex(a int) norm.Step { return norm.Step{Op: api.OpEX, A: a} }

func eu(a, b int) norm.Step { return norm.Step{Op: api.OpEU, A: a, B: b} }

func eg(a int) norm.Step { return norm.Step{Op: api.OpEG, A: a} }

func insts(ops ...int) []api.Inst {
	var l []api.Inst
	for _, op := range ops {
		l = append(l, api.Inst{Op: op})
	}
	return l
}

// stages tells a formula of the open stages 0 and 1, and a sign.
func stages(op int) []api.Inst {
	return []api.Inst{{Op: api.OpOpen}, {Op: api.OpOpen, N: 1}, {Op: op}}
}

func TestSteps(t *testing.T) {
	for i, x := range []struct {
		l    []api.Inst
		want []norm.Step
		own  int
	}{
		{insts(api.OpTrue, api.OpAG), []norm.Step{atom(api.OpTrue), not(0), eu(0, 1), not(2)}, 3},
		{stages(api.OpAnd), []norm.Step{open(0), open(1), and(0, 1)}, 2},
		{stages(api.OpOr), []norm.Step{open(0), open(1), not(0), not(1), and(2, 3), not(4)}, 5},
		{stages(api.OpImplies), []norm.Step{open(0), open(1), not(1), and(0, 2), not(3)}, 4},
		{stages(api.OpEU), []norm.Step{open(0), open(1), eu(0, 1)}, 2},
		{stages(api.OpAU), []norm.Step{open(0), open(1), not(1), not(0), and(3, 2), eu(2, 4), not(5), eg(2), not(7), and(6, 8)}, 9},
		{insts(api.OpOpen, api.OpNot), []norm.Step{open(0), not(0)}, 1},
		{insts(api.OpOpen, api.OpAX), []norm.Step{open(0), not(0), ex(1), not(2)}, 3},
		{insts(api.OpOpen, api.OpEX), []norm.Step{open(0), ex(0)}, 1},
		{insts(api.OpOpen, api.OpAF), []norm.Step{open(0), not(0), eg(1), not(2)}, 3},
		{insts(api.OpOpen, api.OpEF), []norm.Step{open(0), atom(api.OpTrue), eu(1, 0)}, 2},
		{insts(api.OpOpen, api.OpAG), []norm.Step{open(0), not(0), atom(api.OpTrue), eu(2, 1), not(3)}, 4},
		{insts(api.OpOpen, api.OpEG), []norm.Step{open(0), eg(0)}, 1},
		// not of not is what it was, and is not put again
		{insts(api.OpOpen, api.OpNot, api.OpNot), []norm.Step{open(0), not(0)}, 0}, {insts(api.OpOpen, api.OpNot, api.OpNot, api.OpNot), []norm.Step{open(0), not(0)}, 1}, {insts(api.OpOpen, api.OpNot, api.OpAG), []norm.Step{open(0), not(0), atom(api.OpTrue), eu(2, 0), not(3)}, 4},
		// what is there is not made again
		{insts(api.OpOpen, api.OpOpen, api.OpAnd), []norm.Step{open(0), and(0, 0)}, 1}, {insts(api.OpOpen, api.OpAX, api.OpOpen, api.OpAX, api.OpOr), []norm.Step{open(0), not(0), ex(1), not(2), and(2, 2), not(4)}, 5}, {insts(api.OpOpen, api.OpEF, api.OpAG), []norm.Step{open(0), atom(api.OpTrue), eu(1, 0), not(2), eu(1, 3), not(4)}, 5},
		// an atom is its instruction as it stands
		{[]api.Inst{{Op: api.OpTrue, N: 5}, {Op: api.OpEF}}, []norm.Step{{Op: api.OpTrue, At: api.Inst{Op: api.OpTrue, N: 5}}, atom(api.OpTrue), eu(1, 0)}, 2},
		{[]api.Inst{{Op: api.OpLess, L: api.Val{Attr: 1, Num: 2}, R: api.Val{Attr: -1, Num: 3}, N: 4, User: 5}}, []norm.Step{{Op: api.OpLess, At: api.Inst{Op: api.OpLess, L: api.Val{Attr: 1, Num: 2}, R: api.Val{Attr: -1, Num: 3}, N: 4, User: 5}}}, 0},
		// a sign's own fields count for nothing
		{[]api.Inst{{Op: api.OpOpen}, {Op: api.OpNot, N: 7, User: 8}, {Op: api.OpEX, N: 9}}, []norm.Step{open(0), not(0), ex(1)}, 2},
	} {
		l, own, e := norm.Steps(x.l)
		if !slices.Equal(l, x.want) || own != x.own || e != api.OK {
			t.Error(i, l, own, e)
		}
		if !norm.Check(l) {
			t.Error(i, "what is made may be")
		}
	}
	for op := api.OpTrue; op <= api.OpStuck; op++ {
		if l, own, e := norm.Steps(insts(op)); !slices.Equal(l, []norm.Step{atom(op)}) || own != 0 || e != api.OK {
			t.Error(op, l, own, e)
		}
	}
}

func TestErrors(t *testing.T) {
	long := insts(api.OpTrue)
	for len(long) < api.MaxItems {
		long = append(long, api.Inst{Op: api.OpEX})
	}
	if l, own, e := norm.Steps(long); len(l) != api.MaxItems || own != api.MaxItems-1 || e != api.OK {
		t.Error(own, e)
	}
	for i, l := range [][]api.Inst{nil, append(long[:api.MaxItems:api.MaxItems], api.Inst{Op: api.OpNot}), insts(api.OpNot), insts(api.OpTrue, api.OpTrue), insts(api.OpTrue, api.OpAnd), insts(0), insts(27), insts(-1), insts(api.OpTrue, 99), insts(api.OpTrue, api.OpTrue, api.OpEX)} {
		if s, own, e := norm.Steps(l); len(s) != 0 || own != 0 || e != api.ErrForm {
			t.Error(i, s, own, e)
		}
	}
}

func TestCheck(t *testing.T) {
	for i, x := range []struct {
		l    []norm.Step
		want bool
	}{
		{nil, true}, {[]norm.Step{open(0), not(0), and(0, 1), ex(2), eu(3, 0), eg(4)}, true}, {[]norm.Step{atom(api.OpStuck), not(0), not(0)}, true},
		{[]norm.Step{not(0)}, false}, {[]norm.Step{open(0), not(1)}, false}, {[]norm.Step{open(0), not(-1)}, false}, {[]norm.Step{open(0), not(2), open(1)}, false}, {[]norm.Step{open(0), and(0, 1)}, false}, {[]norm.Step{open(0), and(1, 0)}, false}, {[]norm.Step{open(0), and(-1, 0)}, false}, {[]norm.Step{open(0), and(0, -1)}, false},
		{[]norm.Step{open(0), ex(1)}, false}, {[]norm.Step{open(0), eg(1)}, false}, {[]norm.Step{open(0), eu(0, 1)}, false}, {[]norm.Step{open(0), eu(1, 0)}, false}, {[]norm.Step{open(0), ex(math.MaxInt)}, false}, {[]norm.Step{open(0), eg(math.MinInt)}, false},
		{[]norm.Step{{Op: 0}}, false}, {[]norm.Step{{Op: 27}}, false}, {[]norm.Step{{Op: -1}}, false}, {[]norm.Step{open(0), {Op: api.OpOr}}, false}, {[]norm.Step{open(0), {Op: api.OpImplies}}, false}, {[]norm.Step{open(0), {Op: api.OpAX}}, false}, {[]norm.Step{open(0), {Op: api.OpAF}}, false}, {[]norm.Step{open(0), {Op: api.OpEF}}, false}, {[]norm.Step{open(0), {Op: api.OpAG}}, false}, {[]norm.Step{open(0), {Op: api.OpAU}}, false},
		{[]norm.Step{open(0), ex(0), eg(1), not(0)}, true}, {[]norm.Step{open(0), eu(0, 0), and(1, 1)}, true},
	} {
		if g := norm.Check(x.l); g != x.want {
			t.Error(i, g)
		}
	}
}

func TestNoStepStandsTwice(t *testing.T) {
	rnd := rand.New(rand.NewSource(32))
	for range 3000 {
		var l []api.Inst
		for open := 0; len(l) < api.MaxItems; {
			op := 1 + rnd.Intn(26)
			n := tree.Arity(op)
			if n > open || len(l)+open >= api.MaxItems-1 && n < 2 {
				if open == 1 {
					break
				}
				continue
			}
			open += 1 - n
			l = append(l, api.Inst{Op: op, N: rnd.Intn(2)})
			if open == 1 && rnd.Intn(8) == 0 {
				break
			}
		}
		s, own, e := norm.Steps(l)
		items := make([]api.Item, len(l))
		for i := range l {
			items[i].Op = l[i].Op
		}
		if (e == api.OK) != (tree.Check(items) == api.OK) {
			t.Fatal(l, e)
		}
		if e != api.OK {
			continue
		}
		seen := map[norm.Step]bool{}
		for _, x := range s {
			if seen[x] || x.Op == api.OpNot && s[x.A].Op == api.OpNot {
				t.Fatal(l, s)
			}
			seen[x] = true
		}
		if !norm.Check(s) || own < 0 || own >= len(s) || len(s) > 8*len(l) {
			t.Fatal(l, len(s), own)
		}
	}
}
