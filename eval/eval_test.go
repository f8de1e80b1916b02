package eval_test

import (
	"cmp"
	"math"
	"math/rand"
	"testing"

	"warder/api"
	"warder/eval"
)

func attr(n int) api.Val { return api.Val{Attr: n} }

func number(n int64) api.Val { return api.Val{Attr: -1, Num: n} }

func insts(ops ...int) []api.Inst {
	var l []api.Inst
	for _, op := range ops {
		l = append(l, api.Inst{Op: op})
	}
	return l
}

func TestCompare(t *testing.T) {
	l := []int64{math.MinInt64, -5, -1, 0, 1, 5, math.MaxInt64}
	for _, a := range l {
		for _, b := range l {
			for op, want := range map[int]bool{api.OpLess: a < b, api.OpAtMost: a <= b, api.OpMore: a > b, api.OpAtLeast: a >= b, api.OpEqual: a == b, api.OpOther: a != b, 0: false, api.OpTrue: false, api.OpFalse: false, api.OpOpen: false, -1: false, 99: false} {
				if eval.Compare(op, a, b) != want {
					t.Error(op, a, b)
				}
			}
		}
	}
}

func TestHolds(t *testing.T) {
	s := api.State{Vals: []int64{2, 7, math.MinInt64}, Open: 2, Done: 1}
	for i, x := range []struct {
		l    []api.Inst
		want bool
	}{
		{[]api.Inst{{Op: api.OpLess, L: attr(0), R: number(3)}}, true}, {[]api.Inst{{Op: api.OpLess, L: number(3), R: attr(0)}}, false}, {[]api.Inst{{Op: api.OpAtMost, L: attr(0), R: number(2)}}, true}, {[]api.Inst{{Op: api.OpMore, L: attr(1), R: attr(0)}}, true}, {[]api.Inst{{Op: api.OpMore, L: attr(0), R: attr(1)}}, false}, {[]api.Inst{{Op: api.OpEqual, L: attr(2), R: number(math.MinInt64)}}, true}, {[]api.Inst{{Op: api.OpOther, L: attr(1), R: attr(1)}}, false}, {[]api.Inst{{Op: api.OpAtLeast, L: number(-1), R: number(-1)}}, true},
		{insts(api.OpTrue), true}, {insts(api.OpFalse), false}, {insts(api.OpTrue, api.OpNot), false}, {insts(api.OpFalse, api.OpNot), true},
		{[]api.Inst{{Op: api.OpOpen, N: 1}}, true}, {[]api.Inst{{Op: api.OpOpen, N: 0}}, false}, {[]api.Inst{{Op: api.OpOpen, N: -1}}, false}, {[]api.Inst{{Op: api.OpOpen, N: 99}}, false}, {[]api.Inst{{Op: api.OpDone, N: 0}}, true}, {[]api.Inst{{Op: api.OpDone, N: 1}}, false}, {[]api.Inst{{Op: api.OpDone, N: math.MaxInt}}, false},
		{insts(api.OpTrue, api.OpTrue, api.OpAnd), true}, {insts(api.OpTrue, api.OpFalse, api.OpAnd), false}, {insts(api.OpFalse, api.OpTrue, api.OpAnd), false}, {insts(api.OpFalse, api.OpFalse, api.OpAnd), false},
		{insts(api.OpTrue, api.OpTrue, api.OpOr), true}, {insts(api.OpTrue, api.OpFalse, api.OpOr), true}, {insts(api.OpFalse, api.OpTrue, api.OpOr), true}, {insts(api.OpFalse, api.OpFalse, api.OpOr), false},
		{insts(api.OpTrue, api.OpTrue, api.OpImplies), true}, {insts(api.OpTrue, api.OpFalse, api.OpImplies), false}, {insts(api.OpFalse, api.OpTrue, api.OpImplies), true}, {insts(api.OpFalse, api.OpFalse, api.OpImplies), true},
		{insts(api.OpFalse, api.OpTrue, api.OpNot, api.OpOr, api.OpNot), true},
	} {
		if g, e := eval.Holds(x.l, s); g != x.want || e != api.OK {
			t.Error(i, g, e)
		}
	}
}

func TestErrors(t *testing.T) {
	s := api.State{Vals: []int64{2, 7}}
	long := insts(api.OpTrue)
	for len(long) < api.MaxItems {
		long = append(long, api.Inst{Op: api.OpNot})
	}
	if g, e := eval.Holds(long, s); g || e != api.OK {
		t.Error("as long as may be", g, e)
	}
	less := func(a, b api.Val) int { return 0 }
	wrong := [][]api.Inst{
		nil, append(long[:api.MaxItems:api.MaxItems], api.Inst{Op: api.OpNot}), insts(api.OpNot), insts(api.OpTrue, api.OpTrue), insts(api.OpTrue, api.OpAnd), insts(api.OpAnd), insts(api.OpTrue, api.OpTrue, api.OpNot), insts(0), insts(-1), insts(27), insts(api.OpTrue, 99), insts(api.OpTrue, api.OpTrue, -7),
		insts(api.OpCan), insts(api.OpDid), insts(api.OpComplete), insts(api.OpStuck), insts(api.OpTrue, api.OpAX), insts(api.OpTrue, api.OpEG), insts(api.OpTrue, api.OpTrue, api.OpAU), insts(api.OpTrue, api.OpTrue, api.OpEU), insts(api.OpTrue, api.OpCan, api.OpOr), insts(api.OpFalse, api.OpStuck, api.OpAnd), insts(api.OpStuck, api.OpNot),
	}
	for i, l := range wrong {
		if g, e := eval.Holds(l, s); g || e != api.ErrForm {
			t.Error(i, g, e)
		}
		if g, e := eval.Sides(l, less, s); g || e != api.ErrForm {
			t.Error("sides", i, g, e)
		}
	}
	// what can't be asked is wrong wherever it stands
	for _, v := range []api.Val{attr(2), attr(-2), attr(math.MaxInt), attr(math.MinInt)} {
		for _, x := range []api.Inst{{Op: api.OpEqual, L: v, R: number(1)}, {Op: api.OpLess, L: number(1), R: v}, {Op: api.OpOther, L: v, R: v}} {
			for _, l := range [][]api.Inst{{x}, {x, {Op: api.OpNot}}, {{Op: api.OpTrue}, x, {Op: api.OpOr}}, {x, {Op: api.OpTrue}, {Op: api.OpOr}}, {{Op: api.OpFalse}, x, {Op: api.OpAnd}}, {{Op: api.OpFalse}, x, {Op: api.OpImplies}}} {
				if g, e := eval.Holds(l, s); g || e != api.ErrForm {
					t.Error(l, g, e)
				}
			}
		}
	}
	if g, e := eval.Sides(insts(api.OpTrue), nil, s); g || e != api.ErrForm {
		t.Error(g, e)
	}
}

func TestSides(t *testing.T) {
	for _, x := range []struct {
		answer int
		holds  [6]bool // of less, at most, more, at least, equal, other
	}{
		{-1, [6]bool{true, true, false, false, false, true}}, {math.MinInt, [6]bool{true, true, false, false, false, true}}, {0, [6]bool{false, true, false, true, true, false}}, {1, [6]bool{false, false, true, true, false, true}}, {math.MaxInt, [6]bool{false, false, true, true, false, true}},
	} {
		for i, want := range x.holds {
			asked := 0
			l := []api.Inst{{Op: api.OpLess + i, L: attr(77), R: api.Val{Attr: -9, Num: 4}}, {Op: api.OpOpen, N: 3}, {Op: api.OpAnd}}
			g, e := eval.Sides(l, func(a, b api.Val) int {
				asked++
				if a != attr(77) || b != (api.Val{Attr: -9, Num: 4}) {
					t.Error(a, b)
				}
				return x.answer
			}, api.State{Open: 8})
			if g != want || e != api.OK || asked == 0 {
				t.Error(x.answer, i, g, e)
			}
		}
	}
}

// formula is any condition, of at most n items, and whether it holds.
func formula(rnd *rand.Rand, s api.State, n int) ([]api.Inst, bool) {
	if n < 2 || rnd.Intn(6) == 0 {
		switch rnd.Intn(4) {
		case 0:
			a, b := rnd.Intn(2), int64(rnd.Intn(5))
			op := rnd.Intn(6)
			return []api.Inst{{Op: api.OpLess + op, L: attr(a), R: number(b)}}, []bool{s.Vals[a] < b, s.Vals[a] <= b, s.Vals[a] > b, s.Vals[a] >= b, s.Vals[a] == b, s.Vals[a] != b}[op]
		case 1:
			k := rnd.Intn(3)
			return []api.Inst{{Op: api.OpOpen, N: k}}, s.Open>>k&1 == 1
		case 2:
			k := rnd.Intn(3)
			return []api.Inst{{Op: api.OpDone, N: k}}, s.Done>>k&1 == 1
		}
		return insts(api.OpTrue), true
	}
	if n == 2 || rnd.Intn(3) == 0 {
		l, h := formula(rnd, s, n-1)
		return append(l, api.Inst{Op: api.OpNot}), !h
	}
	k := 1 + rnd.Intn(n-2)
	a, ha := formula(rnd, s, k)
	b, hb := formula(rnd, s, n-1-k)
	op := rnd.Intn(3)
	return append(append(a, b...), api.Inst{Op: api.OpAnd + op}), []bool{ha && hb, ha || hb, !ha || hb}[op]
}

func TestWhatIsPutOfConditions(t *testing.T) {
	rnd := rand.New(rand.NewSource(16))
	for range 3000 {
		s := api.State{Vals: []int64{int64(rnd.Intn(5)), int64(rnd.Intn(5))}, Open: rnd.Intn(8), Done: rnd.Intn(8)}
		l, want := formula(rnd, s, 1+rnd.Intn(40))
		if g, e := eval.Holds(l, s); g != want || e != api.OK {
			t.Fatal(l, s, g, e)
		}
		val := func(v api.Val) int64 {
			if v.Attr == -1 {
				return v.Num
			}
			return s.Vals[v.Attr]
		}
		if g, e := eval.Sides(l, func(a, b api.Val) int { return cmp.Compare(val(a), val(b)) }, s); g != want || e != api.OK {
			t.Fatal(l, s, g, e)
		}
	}
}
