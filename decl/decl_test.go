package decl_test

import (
	"math"
	"math/rand"
	"reflect"
	"strings"
	"testing"

	"warder/api"
	"warder/decl"
	"warder/token"
)

func at(line, col int) api.Pos { return api.Pos{Line: line, Col: col} }

func TestStatements(t *testing.T) {
	cond := []api.Item{{Op: api.OpLess, L: api.Word{Name: "a"}, R: api.Word{Num: 3}, At: at(1, 16)}}
	for _, x := range []struct {
		s    string
		want api.Stmt
	}{
		{"attr a = -1;", api.Stmt{Kind: api.StAttr, Name: "a", Init: -1}},
		{"user u;", api.Stmt{Kind: api.StUser, Name: "u"}},
		{"role r = u;", api.Stmt{Kind: api.StRole, Name: "r", Names: []string{"u"}}},
		{"role r = u v u;", api.Stmt{Kind: api.StRole, Name: "r", Names: []string{"u", "v", "u"}}},
		{"stage s;", api.Stmt{Kind: api.StStage, Name: "s"}},
		{"stage t in s;", api.Stmt{Kind: api.StStage, Name: "t", Stage: "s"}},
		{"event e by r in s;", api.Stmt{Kind: api.StEvent, Name: "e", Role: "r", Stage: "s"}},
		{"event e by r in s sets a;", api.Stmt{Kind: api.StEvent, Name: "e", Role: "r", Stage: "s", Names: []string{"a"}}},
		{"event e by r in s sets a, b,c max 3;", api.Stmt{Kind: api.StEvent, Name: "e", Role: "r", Stage: "s", Names: []string{"a", "b", "c"}, Times: 3}},
		{"event e by r in s max 1;", api.Stmt{Kind: api.StEvent, Name: "e", Role: "r", Stage: "s", Times: 1}},
		{"guard s;", api.Stmt{Kind: api.StGuard, Stage: "s"}},
		{"guard s on e;", api.Stmt{Kind: api.StGuard, Stage: "s", Event: "e"}},
		{"guard s     if a < 3;", api.Stmt{Kind: api.StGuard, Stage: "s", If: cond}},
		{"guard s on e if a<3;", api.Stmt{Kind: api.StGuard, Stage: "s", Event: "e", If: cond}},
		{"milestone m of s;", api.Stmt{Kind: api.StMile, Name: "m", Stage: "s"}},
		{"milestone m of s on e final;", api.Stmt{Kind: api.StMile, Name: "m", Stage: "s", Event: "e", Final: true}},
		{"milestone m of s final;", api.Stmt{Kind: api.StMile, Name: "m", Stage: "s", Final: true}},
		{"milestone m of s on e if true final;", api.Stmt{Kind: api.StMile, Name: "m", Stage: "s", Event: "e", Final: true, If: []api.Item{{Op: api.OpTrue, At: at(1, 26)}}}},
		{"milestone m of s if true;", api.Stmt{Kind: api.StMile, Name: "m", Stage: "s", If: []api.Item{{Op: api.OpTrue, At: at(1, 21)}}}},
		{"sod e, f;", api.Stmt{Kind: api.StSod, Names: []string{"e", "f"}}},
	} {
		x.want.At = at(1, 1)
		if len(x.want.If) == 1 && x.want.Kind == api.StGuard {
			x.want.If[0].At = at(1, strings.Index(x.s, "if")+4)
		}
		l, f := decl.Read(x.s)
		if f != (api.Fault{}) || len(l) != 1 || !reflect.DeepEqual(l[0], x.want) {
			t.Errorf("%q: %v %v", x.s, l, f)
		}
	}
}

func TestExample(t *testing.T) {
	l, f := decl.Read("stage s; attr a = -1;")
	want := []api.Stmt{{Kind: api.StStage, Name: "s", At: at(1, 1)}, {Kind: api.StAttr, Name: "a", Init: -1, At: at(1, 10)}}
	if f != (api.Fault{}) || !reflect.DeepEqual(l, want) {
		t.Error(l, f)
	}
	for _, s := range []string{"", " # nothing\n"} {
		if l, f := decl.Read(s); len(l) != 0 || f != (api.Fault{}) {
			t.Error(l, f)
		}
	}
}

func TestFaults(t *testing.T) {
	for s, want := range map[string]api.Fault{
		"attr":                              {Err: api.ErrToken, At: at(1, 5)},
		"attr a":                            {Err: api.ErrToken, At: at(1, 7)},
		"attr a 1":                          {Err: api.ErrToken, At: at(1, 8)},
		"attr a = b":                        {Err: api.ErrToken, At: at(1, 10)},
		"attr a = 1":                        {Err: api.ErrToken, At: at(1, 11)},
		"attr a = 1 user u;":                {Err: api.ErrToken, At: at(1, 12)},
		"attr 1 = 1;":                       {Err: api.ErrToken, At: at(1, 6)},
		"attr in = 1;":                      {Err: api.ErrToken, At: at(1, 6)},
		"user;":                             {Err: api.ErrToken, At: at(1, 5)},
		"user u v;":                         {Err: api.ErrToken, At: at(1, 8)},
		"role r = ;":                        {Err: api.ErrToken, At: at(1, 10)},
		"role r u;":                         {Err: api.ErrToken, At: at(1, 8)},
		"role r = u, v;":                    {Err: api.ErrToken, At: at(1, 11)},
		"role = u;":                         {Err: api.ErrToken, At: at(1, 6)},
		"stage s in;":                       {Err: api.ErrToken, At: at(1, 11)},
		"stage s of t;":                     {Err: api.ErrToken, At: at(1, 9)},
		"stage;":                            {Err: api.ErrToken, At: at(1, 6)},
		"event e in s by r;":                {Err: api.ErrToken, At: at(1, 9)},
		"event e by r;":                     {Err: api.ErrToken, At: at(1, 13)},
		"event e by r in;":                  {Err: api.ErrToken, At: at(1, 16)},
		"event e by in s;":                  {Err: api.ErrToken, At: at(1, 12)},
		"event by r in s;":                  {Err: api.ErrToken, At: at(1, 7)},
		"event e by r in s sets;":           {Err: api.ErrToken, At: at(1, 23)},
		"event e by r in s sets a,;":        {Err: api.ErrToken, At: at(1, 26)},
		"event e by r in s sets a b;":       {Err: api.ErrToken, At: at(1, 26)},
		"event e by r in s max;":            {Err: api.ErrToken, At: at(1, 22)},
		"event e by r in s max a;":          {Err: api.ErrToken, At: at(1, 23)},
		"event e by r in s max 0;":          {Err: api.ErrBound, At: at(1, 23)},
		"event e by r in s max 4 ]":         {Err: api.ErrBound, At: at(1, 23)},
		"event e by r in s sets a max -1;":  {Err: api.ErrBound, At: at(1, 30)},
		"event e by r in s max 1 sets a;":   {Err: api.ErrToken, At: at(1, 25)},
		"event e by r in s max 4294967297;": {Err: api.ErrBound, At: at(1, 23)},
		"guard;":                            {Err: api.ErrToken, At: at(1, 6)},
		"guard s on;":                       {Err: api.ErrToken, At: at(1, 11)},
		"guard s if;":                       {Err: api.ErrToken, At: at(1, 11)},
		"guard s if true on e;":             {Err: api.ErrToken, At: at(1, 17)},
		"guard s if can e;":                 {Err: api.ErrToken, At: at(1, 12)},
		"guard s if AG true;":               {Err: api.ErrToken, At: at(1, 12)},
		"guard s final;":                    {Err: api.ErrToken, At: at(1, 9)},
		"milestone m s;":                    {Err: api.ErrToken, At: at(1, 13)},
		"milestone of s;":                   {Err: api.ErrToken, At: at(1, 11)},
		"milestone m of;":                   {Err: api.ErrToken, At: at(1, 15)},
		"milestone m of s on;":              {Err: api.ErrToken, At: at(1, 20)},
		"milestone m of s if final;":        {Err: api.ErrToken, At: at(1, 21)},
		"milestone m of s final if true;":   {Err: api.ErrToken, At: at(1, 24)},
		"milestone m of s final final;":     {Err: api.ErrToken, At: at(1, 24)},
		"sod e f;":                          {Err: api.ErrToken, At: at(1, 7)},
		"sod e;":                            {Err: api.ErrToken, At: at(1, 6)},
		"sod e,;":                           {Err: api.ErrToken, At: at(1, 7)},
		"sod e, f, g;":                      {Err: api.ErrToken, At: at(1, 9)},
		"sod;":                              {Err: api.ErrToken, At: at(1, 4)},
		";":                                 {Err: api.ErrToken, At: at(1, 1)},
		"user u;;":                          {Err: api.ErrToken, At: at(1, 8)},
		"u;":                                {Err: api.ErrToken, At: at(1, 1)},
		"true;":                             {Err: api.ErrToken, At: at(1, 1)},
		"user u;\nuser v":                   {Err: api.ErrToken, At: at(2, 7)},
		"u !":                               {Err: api.ErrChar, At: at(1, 3)},
		"user u\xff":                        {Err: api.ErrChar, At: at(1, 7)},
		"event e by r in s max 9; !":        {Err: api.ErrChar, At: at(1, 26)},
		"guard s if " + strings.Repeat("(", 26) + ";":            {Err: api.ErrDeep, At: at(1, 37)},
		"guard s if true" + strings.Repeat(" or true", 32) + ";": {Err: api.ErrLong, At: at(1, 12)},
	} {
		if l, f := decl.Read(s); len(l) != 0 || f != want {
			t.Errorf("%q: %v %v, not %v", s, l, f, want)
		}
	}
}

func TestOne(t *testing.T) {
	l, _ := token.Tokens("user u; guard s if true; sod e,f;")
	for _, x := range []struct {
		at, to, kind int
		fault        api.Fault
	}{
		{0, 3, api.StUser, api.Fault{}}, {3, 8, api.StGuard, api.Fault{}}, {8, 13, api.StSod, api.Fault{}},
		{1, 0, 0, api.Fault{Err: api.ErrToken, At: at(1, 6)}}, {6, 0, 0, api.Fault{Err: api.ErrToken, At: at(1, 20)}}, {13, 0, 0, api.Fault{Err: api.ErrToken, At: at(1, 34)}},
		{-1, 0, 0, api.Fault{Err: api.ErrToken}}, {14, 0, 0, api.Fault{Err: api.ErrToken}}, {math.MaxInt, 0, 0, api.Fault{Err: api.ErrToken}}, {math.MinInt, 0, 0, api.Fault{Err: api.ErrToken}},
	} {
		s, to, f := decl.One(l, x.at)
		if s.Kind != x.kind || to != x.to || f != x.fault || x.kind == 0 && !reflect.DeepEqual(s, api.Stmt{}) {
			t.Error(x, s, to, f)
		}
	}
	for _, s := range []string{"user", "user u", "attr a = 1", "role r =", "stage t in", "event e by r in s sets a,", "event e by r in s max", "guard s if", "guard s if true and", "milestone m of s final", "sod e,"} {
		l, _ := token.Tokens(s)
		if x, to, f := decl.One(l[:len(l)-1], 0); !reflect.DeepEqual(x, api.Stmt{}) || to != 0 || f != (api.Fault{Err: api.ErrToken}) {
			t.Errorf("%q without an end: %v %d %v", s, x, to, f)
		}
	}
	if x, to, f := decl.One(nil, 0); !reflect.DeepEqual(x, api.Stmt{}) || to != 0 || f != (api.Fault{Err: api.ErrToken}) {
		t.Error(x, to, f)
	}
}

func bare(l []api.Stmt) []api.Stmt {
	for i := range l {
		l[i].At = api.Pos{}
		for k := range l[i].If {
			l[i].If[k].At = api.Pos{}
		}
	}
	return l
}

func TestTwoTexts(t *testing.T) {
	rnd := rand.New(rand.NewSource(8))
	lines := []string{"attr a = 1;", "user u; # x", "role r = u v;", "stage s\n in t;", "event e by r in s sets a, b max 2;", "guard s on e if a < 3 or open t;", "milestone m of s if done k final;", "sod e, f;", "", "#"}
	for range 300 {
		var two [2]string
		for i := range two {
			for range rnd.Intn(4) {
				two[i] += lines[rnd.Intn(len(lines))] + "\n"
			}
			two[i] += lines[rnd.Intn(len(lines))]
		}
		a, fa := decl.Read(two[0])
		b, fb := decl.Read(two[1])
		both, f := decl.Read(two[0] + "\n" + two[1])
		if fa.Err != api.OK || fb.Err != api.OK || f.Err != api.OK {
			t.Fatal(two, fa, fb, f)
		}
		if want := append(bare(a), bare(b)...); len(want) != len(both) || len(want) > 0 && !reflect.DeepEqual(bare(both), want) {
			t.Fatal(two, both)
		}
	}
}
