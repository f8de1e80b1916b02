package page_test

import (
	"math"
	"math/rand"
	"reflect"
	"strings"
	"testing"

	"warder/api"
	"warder/decl"
	"warder/page"
)

var less = []api.Item{{Op: api.OpLess, L: api.Word{Name: "a"}, R: api.Word{Num: 3}}}

func TestLines(t *testing.T) {
	for _, x := range []struct {
		s    api.Stmt
		want string
	}{
		{api.Stmt{Kind: api.StGuard, Stage: "t", Event: "e", If: less}, "guard t on e if a < 3;\n"}, {api.Stmt{Kind: api.StGuard, Stage: "t"}, "guard t;\n"}, {api.Stmt{Kind: api.StGuard, Stage: "t", Event: "e"}, "guard t on e;\n"}, {api.Stmt{Kind: api.StGuard, Stage: "t", If: less}, "guard t if a < 3;\n"},
		{api.Stmt{Kind: api.StAttr, Name: "a", Init: -1}, "attr a = -1;\n"}, {api.Stmt{Kind: api.StAttr, Name: "a", Init: math.MinInt64}, "attr a = -9223372036854775808;\n"}, {api.Stmt{Kind: api.StUser, Name: "u"}, "user u;\n"},
		{api.Stmt{Kind: api.StRole, Name: "r", Names: []string{"u"}}, "role r = u;\n"}, {api.Stmt{Kind: api.StRole, Name: "r", Names: []string{"u", "v", "u"}}, "role r = u v u;\n"},
		{api.Stmt{Kind: api.StStage, Name: "s"}, "stage s;\n"}, {api.Stmt{Kind: api.StStage, Name: "s", Stage: "t"}, "stage s in t;\n"},
		{api.Stmt{Kind: api.StEvent, Name: "e", Role: "r", Stage: "s"}, "event e by r in s;\n"}, {api.Stmt{Kind: api.StEvent, Name: "e", Role: "r", Stage: "s", Names: []string{"a"}}, "event e by r in s sets a;\n"},
		{api.Stmt{Kind: api.StEvent, Name: "e", Role: "r", Stage: "s", Names: []string{"a", "b", "c"}, Times: 3}, "event e by r in s sets a, b, c max 3;\n"}, {api.Stmt{Kind: api.StEvent, Name: "e", Role: "r", Stage: "s", Times: 1}, "event e by r in s max 1;\n"},
		{api.Stmt{Kind: api.StMile, Name: "m", Stage: "s"}, "milestone m of s;\n"}, {api.Stmt{Kind: api.StMile, Name: "m", Stage: "s", Event: "e", If: less, Final: true}, "milestone m of s on e if a < 3 final;\n"}, {api.Stmt{Kind: api.StMile, Name: "m", Stage: "s", Final: true}, "milestone m of s final;\n"},
		{api.Stmt{Kind: api.StSod, Names: []string{"e", "f"}}, "sod e, f;\n"},
	} {
		if s, e := page.Line(x.s); s != x.want || e != api.OK {
			t.Errorf("%v: %q %v", x.s, s, e)
		}
	}
}

func TestErrors(t *testing.T) {
	long := []api.Item{{Op: api.OpTrue}}
	for range api.MaxItems {
		long = append(long, api.Item{Op: api.OpNot})
	}
	for i, x := range []struct {
		s api.Stmt
		e api.Errno
	}{
		{api.Stmt{}, api.ErrForm}, {api.Stmt{Kind: 9, Name: "a"}, api.ErrForm}, {api.Stmt{Kind: -1, Name: "a"}, api.ErrForm}, {api.Stmt{Kind: api.StAttr}, api.ErrForm}, {api.Stmt{Kind: api.StAttr, Name: "in"}, api.ErrForm}, {api.Stmt{Kind: api.StUser, Name: "U"}, api.ErrForm},
		{api.Stmt{Kind: api.StRole, Name: "r"}, api.ErrForm}, {api.Stmt{Kind: api.StRole, Names: []string{"u"}}, api.ErrForm}, {api.Stmt{Kind: api.StRole, Name: "r", Names: []string{"u", ""}}, api.ErrForm},
		{api.Stmt{Kind: api.StStage}, api.ErrForm}, {api.Stmt{Kind: api.StStage, Name: "s", Stage: "9"}, api.ErrForm},
		{api.Stmt{Kind: api.StEvent, Name: "e", Role: "r", Stage: "s", Times: -1}, api.ErrForm}, {api.Stmt{Kind: api.StEvent, Name: "e", Role: "r", Stage: "s", Times: api.MaxTimes + 1}, api.ErrForm}, {api.Stmt{Kind: api.StEvent, Role: "r", Stage: "s"}, api.ErrForm}, {api.Stmt{Kind: api.StEvent, Name: "e", Stage: "s"}, api.ErrForm}, {api.Stmt{Kind: api.StEvent, Name: "e", Role: "r"}, api.ErrForm}, {api.Stmt{Kind: api.StEvent, Name: "e", Role: "r", Stage: "s", Names: []string{"a", "of"}}, api.ErrForm},
		{api.Stmt{Kind: api.StGuard}, api.ErrForm}, {api.Stmt{Kind: api.StGuard, Stage: "s", Event: "E"}, api.ErrForm}, {api.Stmt{Kind: api.StMile, Name: "m"}, api.ErrForm}, {api.Stmt{Kind: api.StMile, Stage: "s"}, api.ErrForm}, {api.Stmt{Kind: api.StMile, Name: "m", Stage: "s", Event: "-"}, api.ErrForm},
		{api.Stmt{Kind: api.StSod}, api.ErrForm}, {api.Stmt{Kind: api.StSod, Names: []string{"e"}}, api.ErrForm}, {api.Stmt{Kind: api.StSod, Names: []string{"e", "f", "g"}}, api.ErrForm}, {api.Stmt{Kind: api.StSod, Names: []string{"e", "F"}}, api.ErrForm},
		{api.Stmt{Kind: api.StGuard, Stage: "s", If: long}, api.ErrLong}, {api.Stmt{Kind: api.StGuard, If: long}, api.ErrLong}, {api.Stmt{Kind: 99, If: long}, api.ErrLong},
		{api.Stmt{Kind: api.StGuard, Stage: "s", If: []api.Item{{Op: api.OpNot}}}, api.ErrForm}, {api.Stmt{Kind: api.StGuard, Stage: "s", If: []api.Item{{Op: api.OpOpen}}}, api.ErrForm},
		{api.Stmt{Kind: api.StGuard, Stage: "s", If: []api.Item{{Op: api.OpCan, Name: "e"}}}, api.ErrForm}, {api.Stmt{Kind: api.StMile, Name: "m", Stage: "s", If: []api.Item{{Op: api.OpDid, Name: "e", User: "u"}}}, api.ErrForm}, {api.Stmt{Kind: api.StGuard, Stage: "s", If: []api.Item{{Op: api.OpComplete}}}, api.ErrForm}, {api.Stmt{Kind: api.StGuard, Stage: "s", If: []api.Item{{Op: api.OpStuck}}}, api.ErrForm},
		{api.Stmt{Kind: api.StGuard, Stage: "s", If: []api.Item{{Op: api.OpTrue}, {Op: api.OpAX}}}, api.ErrForm}, {api.Stmt{Kind: api.StGuard, Stage: "s", If: []api.Item{{Op: api.OpTrue}, {Op: api.OpTrue}, {Op: api.OpEU}}}, api.ErrForm},
	} {
		if s, e := page.Line(x.s); s != "" || e != x.e {
			t.Error(i, s, e)
		}
		if s, e := page.Text([]api.Stmt{{Kind: api.StUser, Name: "u"}, x.s, {Kind: 77, If: long}}); s != "" || e != x.e {
			t.Error(i, s, e)
		}
	}
	for op := api.OpTrue; op <= api.OpDone; op++ {
		if _, e := page.Line(api.Stmt{Kind: api.StGuard, Stage: "s", If: []api.Item{{Op: op, Name: "s"}}}); e != api.OK {
			t.Error(op, e)
		}
	}
	all := []api.Item{{Op: api.OpTrue}, {Op: api.OpNot}, {Op: api.OpTrue}, {Op: api.OpAnd}, {Op: api.OpTrue}, {Op: api.OpOr}, {Op: api.OpTrue}, {Op: api.OpImplies}}
	if s, e := page.Line(api.Stmt{Kind: api.StGuard, Stage: "s", If: all}); s != "guard s if not true and true or true implies true;\n" || e != api.OK {
		t.Error(s, e)
	}
}

func bare(l []api.Stmt) []api.Stmt {
	for i := range l {
		l[i].At = api.Pos{}
		for k := range l[i].If {
			l[i].If[k].At = api.Pos{}
		}
	}
	return l
}

func TestToldAgain(t *testing.T) {
	if s, e := page.Text(nil); s != "" || e != api.OK {
		t.Error(s, e)
	}
	rnd := rand.New(rand.NewSource(9))
	lines := []string{"attr a = 1;", "user u; # x", "role r = u v;", "role q=u;", "stage s\n in t;", "stage x;", "event e by r in s sets a , b max 2;", "event f by r in s max 1;", "event g by r in s;", "guard s on e if a < 3 or (open t);", "guard s if not (a=b and true);", "guard t;", "milestone m of s if (done k implies true) implies false final;", "milestone n of s on e;", "sod e,f;", ""}
	for range 300 {
		var b strings.Builder
		for range rnd.Intn(9) {
			b.WriteString(lines[rnd.Intn(len(lines))] + "\n")
		}
		l, _ := decl.Read(b.String())
		s, e := page.Text(l)
		again, f := decl.Read(s)
		if e != api.OK || f.Err != api.OK {
			t.Fatalf("%q: %v; %q: %v", b.String(), e, s, f)
		}
		if twice, _ := page.Text(again); twice != s {
			t.Fatalf("%q, then %q", s, twice)
		}
		if !reflect.DeepEqual(bare(l), bare(again)) {
			t.Fatalf("%q: %v, then %v", b.String(), l, again)
		}
		var one strings.Builder
		for _, x := range l {
			line, _ := page.Line(x)
			one.WriteString(line)
		}
		if one.String() != s || strings.Count(s, "\n") != len(l) {
			t.Fatalf("%q, by lines %q", s, one.String())
		}
	}
}
