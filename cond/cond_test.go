package cond_test

import (
	"math"
	"math/rand"
	"slices"
	"strings"
	"testing"

	"warder/api"
	"warder/cond"
	"warder/token"
	"warder/tree"
)

func at(col int) api.Pos { return api.Pos{Line: 1, Col: col} }

func fault(e api.Errno, col int) api.Fault { return api.Fault{Err: e, At: at(col)} }

func name(s string) api.Word { return api.Word{Name: s} }

func number(n int64) api.Word { return api.Word{Num: n} }

// short tells a formula by its words, items one behind the other.
func short(l []api.Item) string {
	words := []string{"?", "true", "false", "<", "<=", ">", ">=", "=", "!=", "open", "done", "can", "did", "complete", "stuck", "not", "and", "or", "implies", "AX", "EX", "AF", "EF", "AG", "EG", "AU", "EU"}
	var out []string
	for _, x := range l {
		s := words[x.Op]
		if x.Op >= api.OpLess && x.Op <= api.OpOther {
			s = x.L.Name + s + x.R.Name
		}
		out = append(out, s+x.User+x.Name)
	}
	return strings.Join(out, " ")
}

func TestItems(t *testing.T) {
	for _, x := range []struct {
		s    string
		want []api.Item
	}{
		{"true", []api.Item{{Op: api.OpTrue, At: at(1)}}}, {" false", []api.Item{{Op: api.OpFalse, At: at(2)}}}, {"complete", []api.Item{{Op: api.OpComplete, At: at(1)}}}, {"stuck", []api.Item{{Op: api.OpStuck, At: at(1)}}},
		{"open s", []api.Item{{Op: api.OpOpen, Name: "s", At: at(6)}}}, {"done m", []api.Item{{Op: api.OpDone, Name: "m", At: at(6)}}}, {"can e", []api.Item{{Op: api.OpCan, Name: "e", At: at(5)}}},
		{"did u e", []api.Item{{Op: api.OpDid, User: "u", Name: "e", At: at(5)}}},
		{"a < 3", []api.Item{{Op: api.OpLess, L: name("a"), R: number(3), At: at(1)}}}, {"a <= b", []api.Item{{Op: api.OpAtMost, L: name("a"), R: name("b"), At: at(1)}}},
		{" -3 > a", []api.Item{{Op: api.OpMore, L: number(-3), R: name("a"), At: at(2)}}}, {"1 >= 0", []api.Item{{Op: api.OpAtLeast, L: number(1), R: number(0), At: at(1)}}},
		{"a=a", []api.Item{{Op: api.OpEqual, L: name("a"), R: name("a"), At: at(1)}}}, {"a!=-9223372036854775808", []api.Item{{Op: api.OpOther, L: name("a"), R: number(math.MinInt64), At: at(1)}}},
		{"not a < 3 and open s", []api.Item{{Op: api.OpLess, L: name("a"), R: number(3), At: at(5)}, {Op: api.OpNot, At: at(1)}, {Op: api.OpOpen, Name: "s", At: at(20)}, {Op: api.OpAnd, At: at(11)}}},
		{"true or false implies true", []api.Item{{Op: api.OpTrue, At: at(1)}, {Op: api.OpFalse, At: at(9)}, {Op: api.OpOr, At: at(6)}, {Op: api.OpTrue, At: at(23)}, {Op: api.OpImplies, At: at(15)}}},
		{"A [true U false]", []api.Item{{Op: api.OpTrue, At: at(4)}, {Op: api.OpFalse, At: at(11)}, {Op: api.OpAU, At: at(1)}}}, {"E[true U AX false]", []api.Item{{Op: api.OpTrue, At: at(3)}, {Op: api.OpFalse, At: at(13)}, {Op: api.OpAX, At: at(10)}, {Op: api.OpEU, At: at(1)}}},
		{"(true)", []api.Item{{Op: api.OpTrue, At: at(2)}}},
	} {
		if l, f := cond.Whole(x.s, true); !slices.Equal(l, x.want) || f != (api.Fault{}) {
			t.Errorf("%q: %v %v", x.s, l, f)
		}
	}
}

func TestHowItIsPut(t *testing.T) {
	for s, want := range map[string]string{
		"open a and open b and open c":                "opena openb and openc and",
		"open a or open b or open c":                  "opena openb or openc or",
		"open a or open b and open c":                 "opena openb openc and or",
		"open a and open b or open c":                 "opena openb and openc or",
		"open a implies open b implies open c":        "opena openb openc implies implies",
		"(open a implies open b) implies open c":      "opena openb implies openc implies",
		"not open a or not not open b":                "opena not openb not not or",
		"AG open a and EF open b":                     "opena AG openb EF and",
		"AX EX AF EF AG EG not can e":                 "cane not EG AG EF AF EX AX",
		"AG (a < b implies done m)":                   "a<b donem implies AG",
		"E [open a implies open b U A [c=c U stuck]]": "opena openb implies c=c stuck AU EU",
		"open a and (open b or complete)":             "opena openb complete or and",
		"did u e or a != b and a >= b":                "didue a!=b a>=b and or",
	} {
		if l, f := cond.Whole(s, true); short(l) != want || f.Err != api.OK {
			t.Errorf("%q: %q %v", s, short(l), f)
		}
	}
}

func TestFaults(t *testing.T) {
	for _, x := range []struct {
		s    string
		prop bool
		want api.Fault
	}{
		{"", true, fault(api.ErrToken, 1)}, {"a", true, fault(api.ErrToken, 2)}, {"open", true, fault(api.ErrToken, 5)}, {"open 3", true, fault(api.ErrToken, 6)}, {"open open", true, fault(api.ErrToken, 6)}, {"open q r", true, fault(api.ErrToken, 8)},
		{"did u", true, fault(api.ErrToken, 6)}, {"did 1 e", true, fault(api.ErrToken, 5)}, {"did", true, fault(api.ErrToken, 4)}, {"can <", true, fault(api.ErrToken, 5)}, {"done", false, fault(api.ErrToken, 5)},
		{"a <", true, fault(api.ErrToken, 4)}, {"a < <", true, fault(api.ErrToken, 5)}, {"a < true", true, fault(api.ErrToken, 5)}, {"< a", true, fault(api.ErrToken, 1)}, {"a , b", true, fault(api.ErrToken, 3)}, {"a < b < c", true, fault(api.ErrToken, 7)}, {"a open s", true, fault(api.ErrToken, 3)},
		{"(true", true, fault(api.ErrToken, 6)}, {"(true]", true, fault(api.ErrToken, 6)}, {"true)", true, fault(api.ErrToken, 5)}, {"()", true, fault(api.ErrToken, 2)}, {"[true]", true, fault(api.ErrToken, 1)},
		{"A true", true, fault(api.ErrToken, 3)}, {"A [true]", true, fault(api.ErrToken, 8)}, {"A [true U]", true, fault(api.ErrToken, 10)}, {"E [true U true)", true, fault(api.ErrToken, 15)}, {"E (true U true)", true, fault(api.ErrToken, 3)}, {"U", true, fault(api.ErrToken, 1)},
		{"true and", true, fault(api.ErrToken, 9)}, {"true and )", true, fault(api.ErrToken, 10)}, {"true or", true, fault(api.ErrToken, 8)}, {"true implies", true, fault(api.ErrToken, 13)}, {"and true", true, fault(api.ErrToken, 1)}, {"not", true, fault(api.ErrToken, 4)}, {"AG", true, fault(api.ErrToken, 3)},
		{"true true", true, fault(api.ErrToken, 6)}, {"attr", true, fault(api.ErrToken, 1)}, {"idle", true, fault(api.ErrToken, 1)}, {"loop", false, fault(api.ErrToken, 1)}, {";", false, fault(api.ErrToken, 1)},
		{"AX true", false, fault(api.ErrToken, 1)}, {"not EF true", false, fault(api.ErrToken, 5)}, {"A [true U true]", false, fault(api.ErrToken, 1)}, {"E [true U true]", false, fault(api.ErrToken, 1)}, {"true and complete", false, fault(api.ErrToken, 10)},
		{"stuck", false, fault(api.ErrToken, 1)}, {"can e", false, fault(api.ErrToken, 1)}, {"did u e", false, fault(api.ErrToken, 1)},
		{"AF true", false, fault(api.ErrToken, 1)}, {"AG true", false, fault(api.ErrToken, 1)}, {"EG true", false, fault(api.ErrToken, 1)}, {"EX true", false, fault(api.ErrToken, 1)},
		{"true !", true, fault(api.ErrChar, 6)}, {") !", true, fault(api.ErrChar, 3)}, {"a < 9223372036854775808", false, fault(api.ErrNumber, 5)},
	} {
		if l, f := cond.Whole(x.s, x.prop); l != nil || f != x.want {
			t.Errorf("%q: %v %v, not %v", x.s, l, f, x.want)
		}
	}
	for _, s := range []string{"true", "not (open s and done m) or a < 3 implies 2 = b", "false or true"} {
		if _, f := cond.Whole(s, false); f.Err != api.OK {
			t.Errorf("%q: %v", s, f)
		}
	}
}

func TestDeep(t *testing.T) {
	n := api.MaxDeep
	for _, x := range []struct{ ahead, behind string }{
		{"not ", ""}, {"AX ", ""}, {"EX ", ""}, {"AF ", ""}, {"EF ", ""}, {"AG ", ""}, {"EG ", ""}, {"(", ")"}, {"A [", " U true]"}, {"E [true U ", "]"}, {"true implies ", ""},
	} {
		s := strings.Repeat(x.ahead, n) + "true" + strings.Repeat(x.behind, n)
		if l, f := cond.Whole(s, true); f.Err != api.OK || tree.Check(l) != api.OK {
			t.Errorf("%q: %v", x.ahead, f)
		}
		for _, last := range []string{"true", ")", "and", ""} {
			s = strings.Repeat(x.ahead, n+1) + last + strings.Repeat(x.behind, n+1)
			col := (n+1)*len(x.ahead) + 1
			if x.behind == "]" {
				col = n*len(x.ahead) + 4 // what stands first in the brackets is too deep already
			}
			if l, f := cond.Whole(s, true); l != nil || f.Err != api.ErrDeep || f.At.Col != col && last != "" {
				t.Errorf("%q, then %q: %v", x.ahead, last, f)
			}
		}
	}
	// what stands on the left of implies, and between ands and ors, is not deeper
	s := strings.Repeat("(", n) + "true and false or true implies not true" + strings.Repeat(")", n)
	if l, f := cond.Whole(s, true); l != nil || f != fault(api.ErrDeep, n+32) {
		t.Error(f)
	}
	s = strings.Repeat("(", n) + "true and false or true" + strings.Repeat(")", n) + strings.Repeat(" and true or true", 10)
	if _, f := cond.Whole(s, true); f.Err != api.OK {
		t.Error(f)
	}
	// of the brackets' two sides the second one, too
	s = strings.Repeat("(", n) + "E [true U true]" + strings.Repeat(")", n)
	if _, f := cond.Whole(s, true); f != fault(api.ErrDeep, n+4) {
		t.Error(f)
	}
	// the first fault from the front
	s = strings.Repeat("not ", n+1) + "true )"
	if _, f := cond.Whole(s, true); f != fault(api.ErrDeep, 4*(n+1)+1) {
		t.Error(f)
	}
	if _, f := cond.Whole("true and and "+s, true); f != fault(api.ErrToken, 10) {
		t.Error(f)
	}
}

func TestLong(t *testing.T) {
	for _, x := range []struct {
		s    string
		want api.Fault
	}{
		{" true" + strings.Repeat(" or true", 31), api.Fault{}}, {" true" + strings.Repeat(" or true", 32), fault(api.ErrLong, 2)}, {" not true" + strings.Repeat(" and true", 31), api.Fault{}}, {" not not true" + strings.Repeat(" and true", 31), fault(api.ErrLong, 2)},
		{" true" + strings.Repeat(" or true", 32) + " or", fault(api.ErrToken, 265)}, {" true" + strings.Repeat(" or true", 32) + " )", fault(api.ErrLong, 2)}, {" true" + strings.Repeat(" or true", 31) + " )", fault(api.ErrToken, 255)},
	} {
		if _, f := cond.Whole(x.s, true); f != x.want {
			t.Errorf("%d: %v, not %v", len(x.s), f, x.want)
		}
	}
}

func TestRead(t *testing.T) {
	l, _ := token.Tokens("guard s if a < 3 and open s; true")
	for _, x := range []struct {
		at, to int
		items  string
		err    api.Errno
		place  api.Pos
	}{
		{3, 9, "a< opens and", api.OK, api.Pos{}}, {7, 9, "opens", api.OK, api.Pos{}}, {10, 11, "true", api.OK, api.Pos{}}, {0, 0, "", api.ErrToken, at(1)}, {1, 0, "", api.ErrToken, at(9)}, {9, 0, "", api.ErrToken, at(28)}, {11, 0, "", api.ErrToken, at(34)},
		{-1, 0, "", api.ErrToken, api.Pos{}}, {12, 0, "", api.ErrToken, api.Pos{}}, {math.MinInt, 0, "", api.ErrToken, api.Pos{}}, {math.MaxInt, 0, "", api.ErrToken, api.Pos{}},
	} {
		got, to, f := cond.Read(l, x.at, false)
		if short(got) != x.items || to != x.to || f != (api.Fault{Err: x.err, At: x.place}) {
			t.Error(x, short(got), to, f)
		}
	}
	// lists without an end
	for s, err := range map[string]api.Errno{"true": api.OK, "not": api.ErrToken, "true and": api.ErrToken, "a": api.ErrToken, "a <": api.ErrToken, "did u": api.ErrToken, "(true": api.ErrToken, "A [true U true": api.ErrToken, strings.Repeat("not ", api.MaxDeep): api.ErrToken} {
		l, _ := token.Tokens(s)
		l = l[:len(l)-1]
		got, to, f := cond.Read(l, 0, true)
		if f != (api.Fault{Err: err}) || err == api.OK && to != len(l) || err != api.OK && (to != 0 || got != nil) {
			t.Errorf("%q: %v %d %v", s, got, to, f)
		}
	}
	if _, to, f := cond.Read(nil, 0, true); to != 0 || f != (api.Fault{Err: api.ErrToken}) {
		t.Error(f)
	}
	// beside each fault no items, and 0
	l, _ = token.Tokens("true" + strings.Repeat(" or true", 32))
	if got, to, f := cond.Read(l, 0, true); got != nil || to != 0 || f != fault(api.ErrLong, 1) {
		t.Error(len(got), to, f)
	}
}

func TestWhatIsReadIsAFormula(t *testing.T) {
	rnd := rand.New(rand.NewSource(6))
	pieces := []string{"true", "open s", "a < 3", "not", "AG", "EX", "and", "or", "implies", "(", ")", "A [", "E [", "U", "]", "did u e", "complete"}
	read := 0
	for range 100000 {
		var b []string
		for range 1 + rnd.Intn(9) {
			b = append(b, pieces[rnd.Intn(len(pieces))])
		}
		s := strings.Join(b, " ")
		l, f := cond.Whole(s, true)
		if f.Err == api.OK {
			read++
			if tree.Check(l) != api.OK {
				t.Fatal(s, l)
			}
		} else if l != nil {
			t.Fatal(s, l, f)
		}
	}
	if read < 500 {
		t.Error("too few were read:", read)
	}
}
