package zeval_test

import (
	"math"
	"math/rand"
	"testing"

	"warder/api"
	"warder/eval"
	"warder/zeval"
	"warder/zone"
)

func attr(n int) api.Val { return api.Val{Attr: n} }

func number(n int64) api.Val { return api.Val{Attr: -1, Num: n} }

func TestExample(t *testing.T) {
	consts := []int64{3}
	z := zone.Of([]int64{2}, consts, 1)
	if g, e := zeval.Holds([]api.Inst{{Op: api.OpLess, L: attr(0), R: number(3)}}, z, consts, api.State{}); !g || e != api.OK {
		t.Error(g, e)
	}
}

func TestHolds(t *testing.T) {
	consts := []int64{3, 8}
	z := zone.Of([]int64{2, 8, 2}, consts, 1)
	// the state's numbers count for nothing
	s := api.State{Vals: []int64{100, -100}, Open: 2, Done: 1}
	for i, x := range []struct {
		l    []api.Inst
		want bool
	}{
		{[]api.Inst{{Op: api.OpEqual, L: attr(0), R: attr(2)}}, true}, {[]api.Inst{{Op: api.OpOther, L: attr(0), R: attr(2)}}, false}, {[]api.Inst{{Op: api.OpEqual, L: attr(1), R: number(8)}}, true}, {[]api.Inst{{Op: api.OpMore, L: attr(1), R: attr(0)}}, true}, {[]api.Inst{{Op: api.OpAtLeast, L: number(3), R: attr(1)}}, false}, {[]api.Inst{{Op: api.OpAtMost, L: number(3), R: number(8)}}, true},
		{[]api.Inst{{Op: api.OpOpen, N: 1}}, true}, {[]api.Inst{{Op: api.OpOpen, N: 0}}, false}, {[]api.Inst{{Op: api.OpDone, N: 0}}, true}, {[]api.Inst{{Op: api.OpTrue}}, true}, {[]api.Inst{{Op: api.OpFalse}, {Op: api.OpNot}}, true},
		{[]api.Inst{{Op: api.OpLess, L: attr(0), R: number(3)}, {Op: api.OpOpen, N: 1}, {Op: api.OpAnd}}, true}, {[]api.Inst{{Op: api.OpLess, L: attr(1), R: number(3)}, {Op: api.OpDone, N: 1}, {Op: api.OpOr}}, false}, {[]api.Inst{{Op: api.OpTrue}, {Op: api.OpLess, L: attr(1), R: number(3)}, {Op: api.OpImplies}}, false},
	} {
		if g, e := zeval.Holds(x.l, z, consts, s); g != x.want || e != api.OK {
			t.Error(i, g, e)
		}
		if !zeval.Knows(x.l, z, consts) {
			t.Error(i, "knows")
		}
	}
}

func TestWhatCantBeAsked(t *testing.T) {
	consts := []int64{3, 8}
	z := zone.Of([]int64{2, 8}, consts, 1)
	for i, v := range []api.Val{number(4), attr(2), attr(-2), attr(31), attr(math.MinInt), number(math.MaxInt64)} {
		for _, x := range []api.Inst{{Op: api.OpEqual, L: v, R: attr(0)}, {Op: api.OpOther, L: number(3), R: v}, {Op: api.OpLess, L: v, R: v}} {
			for _, l := range [][]api.Inst{{x}, {{Op: api.OpTrue}, x, {Op: api.OpOr}}, {x, x, {Op: api.OpNot}}} {
				if g, e := zeval.Holds(l, z, consts, api.State{Vals: []int64{1, 2, 3}}); g || e != api.ErrForm {
					t.Error(i, l, g, e)
				}
				if zeval.Knows(l, z, consts) {
					t.Error(i, l, "knows")
				}
			}
		}
	}
	for i, l := range [][]api.Inst{nil, {{Op: api.OpNot}}, {{Op: api.OpTrue}, {Op: api.OpTrue}}, {{Op: api.OpCan}}, {{Op: api.OpStuck}}, {{Op: api.OpTrue}, {Op: api.OpAX}}, {{Op: 0}}, {{Op: 77}}} {
		if g, e := zeval.Holds(l, z, consts, api.State{}); g || e != api.ErrForm {
			t.Error(i, g, e)
		}
		if !zeval.Knows(l, z, consts) {
			t.Error(i, "there are no values")
		}
	}
	// what is no comparison has no values
	if !zeval.Knows([]api.Inst{{Op: api.OpOpen, L: attr(9), R: number(77)}, {Op: api.OpTrue, L: attr(9)}, {Op: api.OpFalse, R: attr(9)}, {Op: 99, L: attr(9)}}, z, consts) {
		t.Error("knows")
	}
}

func TestNumbersAndTheirZone(t *testing.T) {
	rnd := rand.New(rand.NewSource(26))
	for range 4000 {
		s := api.State{Vals: []int64{int64(rnd.Intn(9)), int64(rnd.Intn(9)), int64(rnd.Intn(9))}, Open: rnd.Intn(4), Done: rnd.Intn(4)}
		consts := []int64{1, 4, 7}
		z := zone.Of(s.Vals, consts, rnd.Intn(4))
		val := func() api.Val {
			if rnd.Intn(2) == 0 {
				return number(consts[rnd.Intn(3)])
			}
			return attr(rnd.Intn(3))
		}
		var l []api.Inst
		for open := 0; ; {
			if open >= 2 && rnd.Intn(2) == 0 {
				l = append(l, api.Inst{Op: api.OpAnd + rnd.Intn(3)})
				open--
			} else if open >= 1 && rnd.Intn(4) == 0 {
				l = append(l, api.Inst{Op: api.OpNot})
			} else if len(l) < 20 {
				l = append(l, []api.Inst{{Op: api.OpLess + rnd.Intn(6), L: val(), R: val()}, {Op: api.OpOpen, N: rnd.Intn(2)}, {Op: api.OpDone, N: rnd.Intn(2)}}[rnd.Intn(3)])
				open++
			}
			if open == 1 && rnd.Intn(5) == 0 {
				break
			}
		}
		if len(l) > api.MaxItems {
			continue
		}
		want, e := eval.Holds(l, s)
		s.Vals = nil
		if g, ze := zeval.Holds(l, z, consts, s); g != want || ze != e {
			t.Fatal(l, s, g, ze, want, e)
		}
	}
}
