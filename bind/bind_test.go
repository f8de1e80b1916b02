package bind_test

import (
	"math"
	"slices"
	"testing"

	"warder/api"
	"warder/bind"
	"warder/cond"
	"warder/names"
)

func table(t *testing.T) *names.Table {
	t.Helper()
	x, f := names.Build([]api.Stmt{
		{Kind: api.StAttr, Name: "b"}, {Kind: api.StAttr, Name: "a"}, {Kind: api.StUser, Name: "u"}, {Kind: api.StUser, Name: "v"}, {Kind: api.StStage, Name: "s"}, {Kind: api.StStage, Name: "t"},
		{Kind: api.StEvent, Name: "e"}, {Kind: api.StEvent, Name: "f"}, {Kind: api.StMile, Name: "k"}, {Kind: api.StMile, Name: "l"}, {Kind: api.StRole, Name: "r"},
	})
	if f.Err != api.OK {
		t.Fatal(f)
	}
	return x
}

func TestFormula(t *testing.T) {
	x := table(t)
	for s, want := range map[string][]api.Inst{
		"a < 3":                               {{Op: api.OpLess, L: api.Val{Attr: 1}, R: api.Val{Attr: -1, Num: 3}}},
		"0 != b":                              {{Op: api.OpOther, L: api.Val{Attr: -1}, R: api.Val{Attr: 0}}},
		"a >= -9223372036854775808 and b = a": {{Op: api.OpAtLeast, L: api.Val{Attr: 1}, R: api.Val{Attr: -1, Num: math.MinInt64}}, {Op: api.OpEqual, L: api.Val{Attr: 0}, R: api.Val{Attr: 1}}, {Op: api.OpAnd}},
		"AG (open t or done l)":               {{Op: api.OpOpen, N: 1}, {Op: api.OpDone, N: 1}, {Op: api.OpOr}, {Op: api.OpAG}},
		"can f implies did v f":               {{Op: api.OpCan, N: 1}, {Op: api.OpDid, N: 1, User: 1}, {Op: api.OpImplies}},
		"did v e":                             {{Op: api.OpDid, N: 0, User: 1}},
		"E [stuck U not complete]":            {{Op: api.OpStuck}, {Op: api.OpComplete}, {Op: api.OpNot}, {Op: api.OpEU}},
		"true and false":                      {{Op: api.OpTrue}, {Op: api.OpFalse}, {Op: api.OpAnd}},
	} {
		items, f := cond.Whole(s, true)
		if f.Err != api.OK {
			t.Fatal(s, f)
		}
		if l, f := bind.Formula(x, items); !slices.Equal(l, want) || f != (api.Fault{}) {
			t.Errorf("%q: %v %v", s, l, f)
		}
	}
	// all else is 0, whatever the item has
	full := api.Item{L: api.Word{Num: 7}, R: api.Word{Num: 8}, Name: "x", User: "y", At: api.Pos{Line: 1, Col: 1}}
	for _, op := range []int{api.OpTrue, api.OpFalse, api.OpComplete, api.OpStuck, api.OpNot, api.OpEU, 0, -4, 99} {
		full.Op = op
		if l, f := bind.Formula(x, []api.Item{full}); f != (api.Fault{}) || len(l) != 1 || l[0] != (api.Inst{Op: op}) {
			t.Error(op, l, f)
		}
	}
	full.Op, full.Name, full.User = api.OpOpen, "t", "u"
	if l, _ := bind.Formula(x, []api.Item{full}); len(l) != 1 || l[0] != (api.Inst{Op: api.OpOpen, N: 1}) {
		t.Error(l)
	}
	// a word with a name is that, whatever its number is
	if l, _ := bind.Formula(x, []api.Item{{Op: api.OpMore, L: api.Word{Name: "a", Num: 5}}}); len(l) != 1 || l[0] != (api.Inst{Op: api.OpMore, L: api.Val{Attr: 1}, R: api.Val{Attr: -1}}) {
		t.Error(l)
	}
	if l, f := bind.Formula(x, nil); len(l) != 0 || f != (api.Fault{}) {
		t.Error(l, f)
	}
}

func TestFaults(t *testing.T) {
	x := table(t)
	for s, want := range map[string]api.Fault{
		"q < 3":                     {Err: api.ErrName, At: api.Pos{Line: 1, Col: 1}},
		"3 < q":                     {Err: api.ErrName, At: api.Pos{Line: 1, Col: 1}},
		"u < q":                     {Err: api.ErrKind, At: api.Pos{Line: 1, Col: 1}},
		"q < u":                     {Err: api.ErrName, At: api.Pos{Line: 1, Col: 1}},
		"a = s":                     {Err: api.ErrKind, At: api.Pos{Line: 1, Col: 1}},
		"open q":                    {Err: api.ErrName, At: api.Pos{Line: 1, Col: 6}},
		"open k":                    {Err: api.ErrKind, At: api.Pos{Line: 1, Col: 6}},
		"done s":                    {Err: api.ErrKind, At: api.Pos{Line: 1, Col: 6}},
		"can u":                     {Err: api.ErrKind, At: api.Pos{Line: 1, Col: 5}},
		"did e q":                   {Err: api.ErrKind, At: api.Pos{Line: 1, Col: 5}},
		"did q u":                   {Err: api.ErrName, At: api.Pos{Line: 1, Col: 5}},
		"did u v":                   {Err: api.ErrKind, At: api.Pos{Line: 1, Col: 5}},
		"did u q":                   {Err: api.ErrName, At: api.Pos{Line: 1, Col: 5}},
		"true and open r or done q": {Err: api.ErrKind, At: api.Pos{Line: 1, Col: 15}},
	} {
		items, _ := cond.Whole(s, true)
		if l, f := bind.Formula(x, items); len(l) != 0 || f != want {
			t.Errorf("%q: %v %v", s, l, f)
		}
	}
	items, _ := cond.Whole("true and open s", true)
	if l, f := bind.Formula(nil, items); len(l) != 0 || f != (api.Fault{Err: api.ErrName, At: api.Pos{Line: 1, Col: 15}}) {
		t.Error(l, f)
	}
	if l, f := bind.Formula(nil, items[:1]); len(l) != 1 || f != (api.Fault{}) {
		t.Error(l, f)
	}
}

func TestNumbersAndAttrs(t *testing.T) {
	l := []api.Inst{
		{Op: api.OpLess, L: api.Val{Attr: 2, Num: 50}, R: api.Val{Attr: -1, Num: 9}}, {Op: api.OpOther, L: api.Val{Attr: -1, Num: -4}, R: api.Val{Attr: 0, Num: 51}}, {Op: api.OpEqual, L: api.Val{Attr: -1, Num: 9}, R: api.Val{Attr: -1, Num: 1}},
		{Op: api.OpAtMost, L: api.Val{Attr: 2}, R: api.Val{Attr: -7}}, {Op: api.OpTrue, L: api.Val{Attr: -1, Num: 99}, R: api.Val{Attr: 5}}, {Op: api.OpOpen, L: api.Val{Attr: -1, Num: 98}}, {Op: api.OpNot},
	}
	if g := bind.Numbers(l); !slices.Equal(g, []int64{-4, 1, 9}) {
		t.Error(g)
	}
	if g := bind.Attrs(l); !slices.Equal(g, []int{-7, 0, 2}) {
		t.Error(g)
	}
	if len(bind.Numbers(nil)) != 0 || len(bind.Attrs(nil)) != 0 || len(bind.Numbers(l[4:])) != 0 || len(bind.Attrs(l[4:])) != 0 {
		t.Error("of nothing")
	}
}

func TestCheck(t *testing.T) {
	m := api.Model{Attrs: []string{"a", "b"}, Users: []string{"u"}, Stages: make([]api.Stage, 2), Events: make([]api.Event, 3), Miles: make([]api.Mile, 1)}
	val := func(a int) api.Val { return api.Val{Attr: a} }
	var long []api.Inst
	for range api.MaxItems {
		long = append(long, api.Inst{Op: api.OpNot})
	}
	long[0].Op = api.OpTrue
	for i, x := range []struct {
		l         []api.Inst
		cond, all bool
	}{
		{[]api.Inst{{Op: api.OpTrue}}, true, true}, {nil, false, false}, {[]api.Inst{{Op: api.OpTrue}, {Op: api.OpTrue}}, false, false}, {[]api.Inst{{Op: api.OpNot}}, false, false}, {[]api.Inst{{Op: 0}}, false, false}, {[]api.Inst{{Op: 27}}, false, false}, {[]api.Inst{{Op: -1}}, false, false},
		{long, true, true}, {append(long[:api.MaxItems:api.MaxItems], api.Inst{Op: api.OpNot}), false, false},
		{[]api.Inst{{Op: api.OpLess, L: val(1), R: val(-1)}}, true, true}, {[]api.Inst{{Op: api.OpLess, L: val(2), R: val(-1)}}, false, false}, {[]api.Inst{{Op: api.OpOther, L: val(0), R: val(-2)}}, false, false}, {[]api.Inst{{Op: api.OpEqual, L: val(-1), R: val(2)}}, false, false}, {[]api.Inst{{Op: api.OpEqual, L: val(0), R: val(1)}}, true, true},
		{[]api.Inst{{Op: api.OpOpen, N: 1}}, true, true}, {[]api.Inst{{Op: api.OpOpen, N: 2}}, false, false}, {[]api.Inst{{Op: api.OpOpen, N: -1}}, false, false}, {[]api.Inst{{Op: api.OpDone, N: 0}}, true, true}, {[]api.Inst{{Op: api.OpDone, N: 1}}, false, false}, {[]api.Inst{{Op: api.OpDone, N: -1}}, false, false},
		{[]api.Inst{{Op: api.OpCan, N: 2}}, false, true}, {[]api.Inst{{Op: api.OpCan, N: 3}}, false, false}, {[]api.Inst{{Op: api.OpDid, N: 2, User: 0}}, false, true}, {[]api.Inst{{Op: api.OpDid, N: 2, User: 1}}, false, false}, {[]api.Inst{{Op: api.OpDid, N: 3}}, false, false}, {[]api.Inst{{Op: api.OpDid, User: -1}}, false, false},
		{[]api.Inst{{Op: api.OpComplete}}, false, true}, {[]api.Inst{{Op: api.OpStuck}}, false, true}, {[]api.Inst{{Op: api.OpTrue}, {Op: api.OpAX}}, false, true}, {[]api.Inst{{Op: api.OpTrue}, {Op: api.OpTrue}, {Op: api.OpEU}}, false, true},
		{[]api.Inst{{Op: api.OpTrue}, {Op: api.OpTrue}, {Op: api.OpImplies}}, true, true}, {[]api.Inst{{Op: api.OpTrue}, {Op: api.OpTrue}, {Op: api.OpOr}}, true, true}, {[]api.Inst{{Op: api.OpTrue}, {Op: api.OpFalse}, {Op: api.OpAnd}}, true, true},
		// what the Op does not name counts for nothing
		{[]api.Inst{{Op: api.OpTrue, N: 99, User: 99, L: val(99), R: val(-9)}}, true, true}, {[]api.Inst{{Op: api.OpOpen, N: 1, User: 99, L: val(99)}}, true, true}, {[]api.Inst{{Op: api.OpCan, N: 1, User: 99}}, false, true},
	} {
		if g := bind.Check(m, x.l, false); g != x.cond {
			t.Error(i, x.l, "as a condition", g)
		}
		if g := bind.Check(m, x.l, true); g != x.all {
			t.Error(i, x.l, "as a property", g)
		}
	}
}
