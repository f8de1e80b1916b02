package lint_test

import (
	"math"
	"math/rand"
	"slices"
	"strings"
	"testing"

	"warder/api"
	"warder/eval"
	"warder/lint"
	"warder/model"
	"warder/reach"
)

func read(t *testing.T, s string) api.Model {
	t.Helper()
	m, f, _ := model.Read(s)
	if f.Err != api.OK {
		t.Fatal(s, f)
	}
	return m
}

func TestNotes(t *testing.T) {
	for text, want := range map[string]string{
		"":                  "",
		"stage s;":          "note 5 s\nnote 6 s\n",
		"stage s; guard s;": "note 6 s\n",
		"attr a = 1;":       "note 1 a\n",
		"attr a = 1; attr b = 2; stage s; guard s if b = b; milestone k of s;":                                   "note 1 a\nnote 2 b\nnote 9 s\n",
		"attr a = 1; attr b = 2; stage s; guard s if a < b; milestone k of s;":                                   "note 2 a\nnote 2 b\n",
		"attr a = 1; user u; role r = u; stage s; guard s if a < 4; event e by r in s sets a max 1;":             "",
		"attr a = 1; attr b = 2; user u; role r = u; stage s; guard s if a < 4; event e by r in s sets b max 1;": "note 1 b\nnote 2 a\n",
		"attr a = 1; stage s; guard s; milestone k of s if 3 > a;":                                               "note 2 a\n",
		"user u; user v; user w; role r = v; stage s; guard s; event e by r in s;":                               "note 3 u\nnote 3 w\n",
		"user u; role r = u; role q = u; stage s; guard s; event e by q in s;":                                   "note 4 r\n",
		"stage s; stage t in s; guard t; milestone k of t;":                                                      "note 5 s\nnote 8 k\n",
		"stage s; stage t in s; guard s; milestone k of t;":                                                      "note 5 t\nnote 8 k\n",
		"stage s; stage t in s; stage x in t; guard t; guard x; user u; role r = u; event e by r in x; event f by r in t; event g by r in s; milestone k of x; milestone l of s;":      "note 5 s\nnote 7 e\nnote 7 f\nnote 7 g\nnote 8 k\nnote 8 l\n",
		"stage s; guard s; guard s if true and true; guard s if false; guard s if not true; milestone k of s if 3 < 4; milestone l of s if true; milestone n of s if done k or false;": "note 9 s\nnote 9 s\nnote 9 s\nnote 10 k\n",
		"user u; user v; role r = u; role q = v; role p = u v; stage s; guard s; event e by r in s; event f by q in s; event g by p in s; sod e, f; sod g, e; sod f, e; sod f, g;":     "note 11 e f\nnote 11 f e\n",
		"attr z = 1; user y; stage x;": "note 1 z\nnote 3 y\nnote 5 x\nnote 6 x\n",
	} {
		m := read(t, text)
		l := lint.Notes(m)
		if g := lint.Text(m, l); g != want {
			t.Errorf("%q: %q", text, g)
		}
		for i := 1; i < len(l); i++ {
			if l[i-1].Code > l[i].Code || l[i-1].Code == l[i].Code && l[i-1].N >= l[i].N {
				t.Error(text, l)
			}
		}
	}
	m := read(t, "stage s; guard s; guard s if true and true; guard s if false; milestone k of s if 3 < 4; milestone l of s if 1 = 1;")
	if l := lint.Notes(m); !slices.Equal(l, []lint.Note{{9, 1}, {9, 2}, {10, 0}, {10, 1}}) {
		t.Error(l)
	}
	m.Order = nil
	if len(lint.Notes(m)) != 0 || lint.Text(m, []lint.Note{{5, 0}, {9, 1}}) != "" {
		t.Error("of a model that may not be")
	}
	if len(lint.Notes(api.Model{Sods: []api.Sod{{A: 1, B: 5}}, Guards: []api.Guard{{Stage: 7}}})) != 0 {
		t.Error("of a model that may not be")
	}
}

func TestText(t *testing.T) {
	m := read(t, "attr a = 1; user u; role r = u; stage s; guard s; event e by r in s; event f by r in s; milestone k of s; sod f, e;")
	var l []lint.Note
	for code := -1; code < 14; code++ {
		for n := -1; n < 4; n++ {
			l = append(l, lint.Note{Code: code, N: n})
		}
	}
	l = append(l, lint.Note{Code: 7, N: math.MaxInt}, lint.Note{Code: math.MaxInt, N: 0}, lint.Note{Code: math.MinInt, N: math.MinInt}, lint.Note{Code: 11, N: 0}, lint.Note{Code: 1, N: 0})
	want := "note 1 a\nnote 2 a\nnote 3 u\nnote 4 r\nnote 5 s\nnote 6 s\nnote 7 e\nnote 7 f\nnote 8 k\nnote 9 s\nnote 10 k\nnote 11 f e\nnote 11 f e\nnote 1 a\n"
	if g := lint.Text(m, l); g != want {
		t.Errorf("%q", g)
	}
	if lint.Text(m, nil) != "" {
		t.Error("no notes")
	}
}

func TestIdle(t *testing.T) {
	attr := func(a int) api.Val { return api.Val{Attr: a} }
	num := func(n int64) api.Val { return api.Val{Attr: -1, Num: n} }
	one := func(op int) []api.Inst { return []api.Inst{{Op: op}} }
	named := func(x api.Inst) []api.Inst { return []api.Inst{x, {Op: api.OpTrue}, {Op: api.OpAnd}} }
	for i, x := range []struct {
		l    []api.Inst
		want bool
	}{
		{one(api.OpTrue), false}, {one(api.OpFalse), true}, {nil, false}, {[]api.Inst{{Op: api.OpTrue}, {Op: api.OpNot}}, true}, {[]api.Inst{{Op: api.OpTrue}, {Op: api.OpFalse}, {Op: api.OpOr}}, true},
		{[]api.Inst{{Op: api.OpLess, L: num(1), R: num(2)}}, true}, {[]api.Inst{{Op: api.OpEqual, L: attr(1), R: attr(1)}}, true}, {[]api.Inst{{Op: api.OpOther, L: attr(1), R: attr(0)}}, false}, {[]api.Inst{{Op: api.OpAtMost, L: attr(1), R: num(0)}}, false}, {[]api.Inst{{Op: api.OpMore, L: num(0), R: attr(0)}}, false}, {[]api.Inst{{Op: api.OpAtLeast, L: num(4), R: num(4)}}, true},
		{named(api.Inst{Op: api.OpLess, L: attr(0), R: num(2)}), false}, {named(api.Inst{Op: api.OpOther, L: attr(3), R: attr(3)}), true}, {named(api.Inst{Op: api.OpOther, L: attr(0), R: attr(3)}), false}, {named(api.Inst{Op: api.OpOpen}), false}, {named(api.Inst{Op: api.OpDone}), false}, {named(api.Inst{Op: api.OpCan}), false}, {named(api.Inst{Op: api.OpDid}), false}, {named(api.Inst{Op: api.OpComplete}), false}, {named(api.Inst{Op: api.OpStuck}), false},
		{one(api.OpOpen), false}, {one(api.OpDone), false}, {one(api.OpCan), false}, {one(api.OpDid), false}, {one(api.OpComplete), false}, {one(api.OpStuck), false},
		{[]api.Inst{{Op: api.OpTrue, L: attr(1), R: attr(0)}, {Op: api.OpNot, L: attr(1), R: attr(0)}}, true}, {[]api.Inst{{Op: api.OpFalse, L: attr(1), R: attr(0)}}, true},
		// other lists of items
		{one(api.OpNot), false}, {one(0), false}, {one(99), false}, {one(-1), false}, {one(api.OpAX), false}, {[]api.Inst{{Op: 0}, {Op: 99}}, true}, {[]api.Inst{{Op: api.OpTrue}, {Op: api.OpTrue}}, true}, {[]api.Inst{{Op: api.OpTrue}, {Op: api.OpAG}}, true}, {[]api.Inst{{Op: 99}, {Op: api.OpOpen}}, false},
	} {
		if g := lint.Idle(x.l); g != x.want {
			t.Error(i, x.l, g)
		}
	}
}

func TestWhatIsIdleIsTheSame(t *testing.T) {
	rnd := rand.New(rand.NewSource(46))
	idle := 0
	for range 20000 {
		var l []api.Inst
		val := func() api.Val {
			if rnd.Intn(2) == 0 {
				return api.Val{Attr: -1, Num: int64(rnd.Intn(4))}
			}
			return api.Val{Attr: rnd.Intn(2)}
		}
		for open := 0; open != 1 || rnd.Intn(3) > 0; {
			switch {
			case open >= 2 && rnd.Intn(2) == 0:
				l, open = append(l, api.Inst{Op: api.OpAnd + rnd.Intn(3)}), open-1
			case open >= 1 && rnd.Intn(3) == 0:
				l = append(l, api.Inst{Op: api.OpNot})
			default:
				l, open = append(l, []api.Inst{{Op: api.OpTrue}, {Op: api.OpFalse}, {Op: api.OpLess + rnd.Intn(6), L: val(), R: val()}, {Op: api.OpOpen}}[rnd.Intn(4)]), open+1
			}
		}
		if len(l) > api.MaxItems || !lint.Idle(l) {
			continue
		}
		idle++
		first, _ := eval.Holds(l, api.State{Vals: []int64{0, 0}})
		for range 10 {
			s := api.State{Vals: []int64{int64(rnd.Intn(5)), int64(rnd.Intn(5))}, Open: rnd.Intn(2), Done: rnd.Intn(2)}
			if g, e := eval.Holds(l, s); g != first || e != api.OK {
				t.Fatal(l, s, g, e)
			}
		}
	}
	if idle < 300 {
		t.Error("too few", idle)
	}
}

func TestWhatLiesInAStageWithoutAGuardNeverComesToBe(t *testing.T) {
	m := read(t, "user u; role r = u; stage s; stage t in s; stage x in t; stage y; guard s; guard x; guard y; event e by r in s; event f by r in t; event g by r in x; event h by r in y; milestone k of t; milestone l of x; milestone n of y on h;")
	r, _ := reach.Ask(m, 1000)
	_, miles, events := reach.Never(m, r)
	for _, x := range lint.Notes(m) {
		if x.Code == 7 && events>>x.N&1 == 0 || x.Code == 8 && miles>>x.N&1 == 0 {
			t.Error(x)
		}
	}
	if g := lint.Text(m, lint.Notes(m)); !strings.Contains(g, "note 7 f\nnote 7 g\nnote 8 k\nnote 8 l\n") {
		t.Error(g)
	}
}
