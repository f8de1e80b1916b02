package frag_test

import (
	"reflect"
	"slices"
	"testing"

	"warder/api"
	"warder/frag"
)

func ops(l ...int) []api.Inst {
	var out []api.Inst
	for _, op := range l {
		out = append(out, api.Inst{Op: op})
	}
	return out
}

// x and y are formulas of two items and of one.
func x() []api.Inst { return []api.Inst{{Op: api.OpOpen, N: 1}, {Op: api.OpNot}} }

func y() []api.Inst { return []api.Inst{{Op: api.OpDid, N: 2, User: 3}} }

func join(l ...[]api.Inst) []api.Inst { return slices.Concat(l...) }

// some are so many items of a formula without signs of time.
func some(n int) []api.Inst {
	return join(ops(api.OpTrue), slices.Repeat(ops(api.OpNot), n-1))
}

func TestRows(t *testing.T) {
	for i, r := range []struct {
		prop []api.Inst
		want frag.Frag
	}{
		{join(x(), ops(api.OpAG)), frag.Frag{Path: true, Through: ops(api.OpTrue), To: join(x(), ops(api.OpNot))}},
		{join(x(), ops(api.OpAF)), frag.Frag{Lasso: true, In: join(x(), ops(api.OpNot))}},
		{join(x(), y(), ops(api.OpAU)), frag.Frag{Path: true, Lasso: true, Through: join(y(), ops(api.OpNot)), To: join(x(), ops(api.OpNot), y(), ops(api.OpNot, api.OpAnd)), In: join(y(), ops(api.OpNot))}},
		{join(x(), ops(api.OpEF, api.OpNot)), frag.Frag{Path: true, Through: ops(api.OpTrue), To: x()}},
		{join(x(), ops(api.OpEG, api.OpNot)), frag.Frag{Lasso: true, In: x()}},
		{join(x(), y(), ops(api.OpEU, api.OpNot)), frag.Frag{Path: true, Through: x(), To: y()}},
		{join(y(), x(), ops(api.OpEU, api.OpNot)), frag.Frag{Path: true, Through: y(), To: x()}},
	} {
		kept := slices.Clone(r.prop)
		f, ok := frag.Of(r.prop)
		if !ok || !reflect.DeepEqual(f, r.want) {
			t.Error(i, f, ok)
		}
		lists := [][]api.Inst{f.Through, f.To, f.In}
		for k, l := range lists {
			before := [][]api.Inst{slices.Clone(f.Through), slices.Clone(f.To), slices.Clone(f.In)}
			for n := range l {
				l[n].Op = 77
			}
			for o, other := range lists {
				if o != k && !slices.Equal(other, before[o]) {
					t.Error(i, "lists share memory")
				}
			}
		}
		if !slices.Equal(kept, r.prop) {
			t.Error(i, "shared with the property")
		}
	}
}

func TestOtherForms(t *testing.T) {
	for i, prop := range [][]api.Inst{
		nil, x(), ops(api.OpTrue, api.OpNot), ops(api.OpNot), ops(api.OpTrue, api.OpTrue), ops(api.OpAG), ops(0), ops(99),
		join(x(), ops(api.OpEF)), join(x(), ops(api.OpEG)), join(x(), ops(api.OpAX)), join(x(), ops(api.OpEX)), join(x(), y(), ops(api.OpEU)), join(x(), y(), ops(api.OpAnd)), join(x(), y(), ops(api.OpImplies)), join(x(), y(), ops(api.OpOr)),
		join(x(), ops(api.OpAG, api.OpNot)), join(x(), ops(api.OpAF, api.OpNot)), join(x(), ops(api.OpAX, api.OpNot)), join(x(), ops(api.OpEX, api.OpNot)), join(x(), y(), ops(api.OpAU, api.OpNot)), join(x(), y(), ops(api.OpAnd, api.OpNot)), join(x(), ops(api.OpNot, api.OpNot)), join(x(), ops(api.OpEF, api.OpNot, api.OpNot)), join(x(), ops(api.OpEF, api.OpNot, api.OpAG)),
		join(x(), ops(api.OpEF, api.OpAG)), join(x(), ops(api.OpAG, api.OpAG)), join(x(), ops(api.OpEX, api.OpAF)), join(x(), y(), ops(api.OpEX, api.OpAU)), join(x(), ops(api.OpEX), y(), ops(api.OpAU)), join(x(), ops(api.OpAG, api.OpEF, api.OpNot)), join(x(), ops(api.OpAX, api.OpEG, api.OpNot)), join(x(), ops(api.OpEX), y(), ops(api.OpEU, api.OpNot)), join(y(), x(), ops(api.OpEX, api.OpEU, api.OpNot)),
		join(x(), ops(api.OpAG), x(), ops(api.OpAG, api.OpAnd)),
	} {
		if f, ok := frag.Of(prop); ok || !reflect.DeepEqual(f, frag.Frag{}) {
			t.Error(i, f)
		}
	}
}

func TestLimits(t *testing.T) {
	for i, r := range []struct {
		prop []api.Inst
		want bool
	}{
		{join(some(62), ops(api.OpAG)), true}, {join(some(63), ops(api.OpAG)), true}, {join(some(64), ops(api.OpAG)), false}, {join(some(63), ops(api.OpAF)), true}, {join(some(62), ops(api.OpEF, api.OpNot)), true}, {join(some(63), ops(api.OpEF, api.OpNot)), false},
		// not x, not y, and: two items more than A U has
		{join(some(30), some(31), ops(api.OpAU)), true}, {join(some(31), some(31), ops(api.OpAU)), false}, {join(some(1), some(60), ops(api.OpAU)), true}, {join(some(60), some(2), ops(api.OpAU)), false}, {join(some(31), some(31), ops(api.OpEU, api.OpNot)), true}, {join(some(32), some(30), ops(api.OpEU, api.OpNot)), true}, {join(some(32), some(31), ops(api.OpEU, api.OpNot)), false},
	} {
		f, ok := frag.Of(r.prop)
		if ok != r.want || !ok && !reflect.DeepEqual(f, frag.Frag{}) {
			t.Error(i, ok)
		}
	}
}

func TestTimeless(t *testing.T) {
	for i, r := range []struct {
		l    []api.Inst
		want bool
	}{
		{x(), true}, {y(), true}, {join(x(), y(), ops(api.OpImplies)), true}, {some(64), true}, {ops(api.OpStuck), true}, {join(x(), y(), ops(api.OpAnd, api.OpNot)), true}, {join(x(), y(), ops(api.OpOr)), true},
		{nil, false}, {some(65), false}, {ops(api.OpNot), false}, {ops(api.OpTrue, api.OpTrue), false}, {ops(0), false}, {ops(-1), false}, {ops(27), false}, {join(x(), ops(api.OpAX)), false}, {join(x(), ops(api.OpEG)), false}, {join(x(), ops(api.OpAG, api.OpNot)), false}, {join(x(), y(), ops(api.OpAU)), false}, {join(x(), y(), ops(api.OpEU)), false},
	} {
		if g := frag.Timeless(r.l); g != r.want {
			t.Error(i, g)
		}
	}
}
