package show_test

import (
	"math"
	"math/rand"
	"strings"
	"testing"

	"warder/api"
	"warder/cond"
	"warder/show"
	"warder/tree"
)

var signs = map[int]string{
	api.OpTrue: "true", api.OpFalse: "false", api.OpLess: "<", api.OpAtMost: "<=", api.OpMore: ">", api.OpAtLeast: ">=", api.OpEqual: "=", api.OpOther: "!=",
	api.OpOpen: "open", api.OpDone: "done", api.OpCan: "can", api.OpDid: "did", api.OpComplete: "complete", api.OpStuck: "stuck",
	api.OpNot: "not", api.OpAnd: "and", api.OpOr: "or", api.OpImplies: "implies",
	api.OpAX: "AX", api.OpEX: "EX", api.OpAF: "AF", api.OpEF: "EF", api.OpAG: "AG", api.OpEG: "EG", api.OpAU: "A", api.OpEU: "E",
}

func TestSign(t *testing.T) {
	for op := -5; op < 40; op++ {
		if g := show.Sign(op); g != signs[op] {
			t.Error(op, g)
		}
	}
	if show.Sign(math.MaxInt) != "" || show.Sign(math.MinInt) != "" {
		t.Error("far off")
	}
}

func TestName(t *testing.T) {
	for s, want := range map[string]bool{
		"a": true, "z9_": true, "abcdefghijklmnop": true, "a_b_c": true, "attrs": true, "m0": true,
		"": false, "abcdefghijklmnopq": false, "A": false, "aB": false, "9a": false, "_a": false, "a b": false, "a-": false, "a\n": false, "\u00e9": false, "a\u00e9": false, "a\xff": false, "true": false, "attr": false, "of": false, "AG": false, "U": false, "a\ufffd": false, " a": false,
	} {
		if show.Name(s) != want {
			t.Errorf("%q", s)
		}
	}
}

func name(s string) api.Word { return api.Word{Name: s} }

func TestTexts(t *testing.T) {
	tr := []api.Item{{Op: api.OpTrue}}
	fa := []api.Item{{Op: api.OpFalse}}
	and := tree.Put(api.OpAnd, tr, fa)
	or := tree.Put(api.OpOr, tr, fa)
	imp := tree.Put(api.OpImplies, tr, fa)
	not := tree.Put(api.OpNot, tr)
	for _, x := range []struct {
		l    []api.Item
		want string
	}{
		{[]api.Item{{Op: api.OpLess, L: name("a"), R: api.Word{Num: 3}}, {Op: api.OpNot}, {Op: api.OpOpen, Name: "s"}, {Op: api.OpAnd}}, "not a < 3 and open s"},
		{tr, "true"}, {[]api.Item{{Op: api.OpComplete}}, "complete"}, {[]api.Item{{Op: api.OpStuck}}, "stuck"}, {[]api.Item{{Op: api.OpDone, Name: "k"}}, "done k"}, {[]api.Item{{Op: api.OpCan, Name: "e"}}, "can e"}, {[]api.Item{{Op: api.OpDid, User: "u", Name: "e"}}, "did u e"},
		{[]api.Item{{Op: api.OpAtMost, L: api.Word{Num: -5}, R: name("b")}}, "-5 <= b"}, {[]api.Item{{Op: api.OpOther, L: name("a"), R: api.Word{Num: math.MinInt64}}}, "a != -9223372036854775808"}, {[]api.Item{{Op: api.OpEqual, L: api.Word{Name: "a", Num: 7}, R: name("b")}}, "a = b"},
		{tree.Put(api.OpNot, and), "not (true and false)"}, {tree.Put(api.OpNot, not), "not not true"}, {tree.Put(api.OpAG, or), "AG (true or false)"}, {tree.Put(api.OpEX, tree.Put(api.OpAU, imp, or)), "EX A [true implies false U true or false]"}, {tree.Put(api.OpEU, and, imp), "E [true and false U true implies false]"},
		{tree.Put(api.OpAX, tr), "AX true"}, {tree.Put(api.OpAF, tr), "AF true"}, {tree.Put(api.OpEF, tr), "EF true"}, {tree.Put(api.OpEG, imp), "EG (true implies false)"},
		{tree.Put(api.OpAnd, and, and), "true and false and (true and false)"}, {tree.Put(api.OpAnd, or, or), "(true or false) and (true or false)"}, {tree.Put(api.OpAnd, imp, imp), "(true implies false) and (true implies false)"}, {tree.Put(api.OpAnd, not, not), "not true and not true"},
		{tree.Put(api.OpOr, and, and), "true and false or true and false"}, {tree.Put(api.OpOr, or, or), "true or false or (true or false)"}, {tree.Put(api.OpOr, imp, imp), "(true implies false) or (true implies false)"},
		{tree.Put(api.OpImplies, and, and), "true and false implies true and false"}, {tree.Put(api.OpImplies, or, or), "true or false implies true or false"}, {tree.Put(api.OpImplies, imp, imp), "(true implies false) implies true implies false"},
	} {
		if g, e := show.Formula(x.l); g != x.want || e != api.OK {
			t.Errorf("%q %v, not %q", g, e, x.want)
		}
	}
}

func TestErrors(t *testing.T) {
	long := []api.Item{{Op: api.OpTrue}}
	for range api.MaxItems {
		long = append(long, api.Item{Op: api.OpNot})
	}
	for i, x := range []struct {
		l []api.Item
		e api.Errno
	}{
		{nil, api.ErrNone}, {long, api.ErrLong}, {[]api.Item{{Op: api.OpNot}}, api.ErrForm}, {[]api.Item{{Op: api.OpTrue}, {Op: api.OpTrue}}, api.ErrForm}, {[]api.Item{{Op: 0}}, api.ErrForm},
		{[]api.Item{{Op: api.OpOpen}}, api.ErrForm}, {[]api.Item{{Op: api.OpDone, Name: "K"}}, api.ErrForm}, {[]api.Item{{Op: api.OpCan, Name: "in"}}, api.ErrForm}, {[]api.Item{{Op: api.OpDid, User: "u"}}, api.ErrForm}, {[]api.Item{{Op: api.OpDid, Name: "e"}}, api.ErrForm}, {[]api.Item{{Op: api.OpDid, Name: "e", User: "1"}}, api.ErrForm}, {[]api.Item{{Op: api.OpDid, Name: "9", User: "u"}}, api.ErrForm},
		{[]api.Item{{Op: api.OpLess, L: name("A")}}, api.ErrForm}, {[]api.Item{{Op: api.OpLess, R: name("a b")}}, api.ErrForm}, {[]api.Item{{Op: api.OpOther, L: name("true"), R: name("a")}}, api.ErrForm}, {[]api.Item{{Op: api.OpOpen, Name: "abcdefghijklmnopq"}, {Op: api.OpNot}}, api.ErrForm},
	} {
		if s, e := show.Formula(x.l); s != "" || e != x.e {
			t.Error(i, s, e)
		}
	}
	// names that the text does not have count for nothing
	for _, x := range []api.Item{{Op: api.OpTrue, Name: "X", User: "X", L: name("X"), R: name("X")}, {Op: api.OpOpen, Name: "s", User: "X", L: name("X")}, {Op: api.OpLess, Name: "X", User: "X"}, {Op: api.OpComplete, Name: "0"}} {
		if _, e := show.Formula([]api.Item{x}); e != api.OK {
			t.Error(x, e)
		}
	}
	if s, e := show.Formula(long[:api.MaxItems]); s != strings.Repeat("not ", api.MaxItems-1)+"true" || e != api.OK {
		t.Error(s, e)
	}
}

func atom(rnd *rand.Rand) []api.Item {
	words := []api.Word{name("a"), name("b_1"), {Num: 0}, {Num: -7}, {Num: math.MaxInt64}}
	switch rnd.Intn(4) {
	case 0:
		return []api.Item{{Op: api.OpLess + rnd.Intn(6), L: words[rnd.Intn(5)], R: words[rnd.Intn(5)]}}
	case 1:
		return []api.Item{{Op: api.OpOpen + rnd.Intn(3), Name: "s"}}
	case 2:
		return []api.Item{{Op: api.OpDid, Name: "e", User: "u"}}
	}
	return []api.Item{{Op: []int{api.OpTrue, api.OpFalse, api.OpComplete, api.OpStuck}[rnd.Intn(4)]}}
}

func formula(rnd *rand.Rand, n int) []api.Item {
	if n < 2 || rnd.Intn(6) == 0 {
		return atom(rnd)
	}
	if n == 2 || rnd.Intn(3) == 0 {
		return tree.Put([]int{api.OpNot, api.OpAX, api.OpEX, api.OpAF, api.OpEF, api.OpAG, api.OpEG}[rnd.Intn(7)], formula(rnd, n-1))
	}
	k := 1 + rnd.Intn(n-2)
	return tree.Put([]int{api.OpAnd, api.OpOr, api.OpImplies, api.OpAU, api.OpEU}[rnd.Intn(5)], formula(rnd, k), formula(rnd, n-1-k))
}

func TestWhatIsToldIsRead(t *testing.T) {
	rnd := rand.New(rand.NewSource(7))
	for range 3000 {
		l := formula(rnd, 1+rnd.Intn(24))
		s, e := show.Formula(l)
		if e != api.OK {
			t.Fatal(l, e)
		}
		again, f := cond.Whole(s, true)
		if f.Err == api.ErrDeep {
			continue
		}
		if f.Err != api.OK || !tree.Same(l, again) {
			t.Fatalf("%q: %v, %v", s, f, again)
		}
	}
}
