package model_test

import (
	"math"
	"math/rand"
	"reflect"
	"slices"
	"strconv"
	"strings"
	"testing"

	"warder/api"
	"warder/decl"
	"warder/model"
	"warder/page"
)

const example = `attr a = 1; user u; user v; role r = u v; stage s; stage t in s;
event e by r in s sets a max 1; event g by r in t; guard s; guard t on e if a > 5;
milestone k of t on g; milestone l of s if done k final; sod e, g;`

func pos(line, col int) api.Pos { return api.Pos{Line: line, Col: col} }

func read(t *testing.T, s string) api.Model {
	t.Helper()
	m, f, lang := model.Read(s)
	if f != (api.Fault{}) || lang {
		t.Fatalf("%q: %v %v", s, f, lang)
	}
	return m
}

func TestWhole(t *testing.T) {
	truth := []api.Inst{{Op: api.OpTrue}}
	want := api.Model{
		Attrs: []string{"a"}, Inits: []int64{1}, Users: []string{"u", "v"}, Roles: []api.Role{{Name: "r", Users: 3}},
		Stages: []api.Stage{{Name: "s", Parent: -1}, {Name: "t", Parent: 0}},
		Events: []api.Event{{Name: "e", Sets: []int{0}, Times: 1}, {Name: "g", Stage: 1}},
		Guards: []api.Guard{{Stage: 0, Event: -1, If: truth}, {Stage: 1, Event: 0, If: []api.Inst{{Op: api.OpMore, R: api.Val{Attr: -1, Num: 5}}}}},
		Miles:  []api.Mile{{Name: "k", Stage: 1, Event: 1, If: truth}, {Name: "l", Stage: 0, Event: -1, If: []api.Inst{{Op: api.OpDone}}, Final: true}},
		Sods:   []api.Sod{{A: 0, B: 1}},
		Order:  []api.Sentry{{N: 0}, {N: 1}, {Mile: true, N: 0}, {Mile: true, N: 1}},
	}
	if m := read(t, example); !reflect.DeepEqual(m, want) || !model.Check(m) {
		t.Errorf("%+v", m)
	}
}

func TestExample(t *testing.T) {
	m := read(t, "user u; role r = u; stage s; event e by r in s;")
	if len(m.Events) != 1 || m.Events[0].Role != 0 || m.Events[0].Stage != 0 || m.Events[0].Name != "e" || len(m.Events[0].Sets) != 0 || m.Events[0].Times != 0 {
		t.Error(m)
	}
	if m := read(t, ""); !reflect.DeepEqual(m, api.Model{}) || !model.Check(m) {
		t.Error(m)
	}
}

func TestOrderOfSetsAndRoles(t *testing.T) {
	m := read(t, "stage t in s; event e by q in t sets c, a max 2; attr a = -4; role r = u; role q = w u; user u; attr b = 0; attr c = 7; user v; stage s; user w; sod f, e; event f by r in s;")
	if !slices.Equal(m.Events[0].Sets, []int{2, 0}) || m.Events[0].Role != 1 || m.Events[0].Times != 2 || m.Roles[1].Users != 5 || m.Roles[0].Users != 1 || m.Stages[0].Parent != 1 || m.Stages[1].Parent != -1 {
		t.Error(m)
	}
	if !slices.Equal(m.Inits, []int64{-4, 0, 7}) || !slices.Equal(m.Attrs, []string{"a", "b", "c"}) || m.Sods[0] != (api.Sod{A: 1, B: 0}) || m.Events[1].Stage != 1 {
		t.Error(m)
	}
}

func TestFaults(t *testing.T) {
	const base = "attr a = 1; attr b = 1; user u; role r = u; stage s; stage t; event e by r in s; event f by r in s; milestone k of s;\n"
	for s, want := range map[string]api.Fault{
		"user a;":                            {Err: api.ErrTwice, At: pos(2, 1)},
		"user x; stage x; stage q in z;":     {Err: api.ErrTwice, At: pos(2, 9)},
		"role q = w; user u;":                {Err: api.ErrTwice, At: pos(2, 13)},
		"role q = w;":                        {Err: api.ErrName, At: pos(2, 1)},
		"role q = a;":                        {Err: api.ErrKind, At: pos(2, 1)},
		"role q = u u;":                      {Err: api.ErrTwice, At: pos(2, 1)},
		"role q = u u w;":                    {Err: api.ErrTwice, At: pos(2, 1)},
		"role q = u w u;":                    {Err: api.ErrName, At: pos(2, 1)},
		"stage x in y;":                      {Err: api.ErrName, At: pos(2, 1)},
		"stage x in a;":                      {Err: api.ErrKind, At: pos(2, 1)},
		"event x by y in s;":                 {Err: api.ErrName, At: pos(2, 1)},
		"event x by u in y;":                 {Err: api.ErrKind, At: pos(2, 1)},
		"event x by r in y;":                 {Err: api.ErrName, At: pos(2, 1)},
		"event x by r in r;":                 {Err: api.ErrKind, At: pos(2, 1)},
		"event x by r in s sets c;":          {Err: api.ErrName, At: pos(2, 1)},
		"event x by r in s sets u max 1;":    {Err: api.ErrKind, At: pos(2, 1)},
		"event x by r in s sets a, a;":       {Err: api.ErrTwice, At: pos(2, 1)},
		"event x by r in s sets a;":          {Err: api.ErrBound, At: pos(2, 1)},
		"event x by r in s sets a, b max 3;": {Err: api.ErrBound, At: pos(2, 1)},
		"event x by r in s sets a max 3; event y by r in s sets b max 1; event z by r in s sets a max 1;": {Err: api.ErrBound, At: pos(2, 65)},
		"guard y;":                     {Err: api.ErrName, At: pos(2, 1)},
		"guard a;":                     {Err: api.ErrKind, At: pos(2, 1)},
		"guard s on y;":                {Err: api.ErrName, At: pos(2, 1)},
		"guard s on a if open q;":      {Err: api.ErrKind, At: pos(2, 1)},
		"guard s if open q;":           {Err: api.ErrName, At: pos(2, 17)},
		"guard s if true and a < s;":   {Err: api.ErrKind, At: pos(2, 21)},
		"milestone x of y;":            {Err: api.ErrName, At: pos(2, 1)},
		"milestone x of s on s;":       {Err: api.ErrKind, At: pos(2, 1)},
		"milestone x of s if done a;":  {Err: api.ErrKind, At: pos(2, 26)},
		"sod e, y;":                    {Err: api.ErrName, At: pos(2, 1)},
		"sod a, e;":                    {Err: api.ErrKind, At: pos(2, 1)},
		"sod e, e;":                    {Err: api.ErrTwice, At: pos(2, 1)},
		" stage x in y; stage y in x;": {Err: api.ErrCycle, At: pos(2, 2)},
		"stage z in y; stage x in y; stage y in x;": {Err: api.ErrCycle, At: pos(2, 15)},
		"stage x in x; guard y;":                    {Err: api.ErrName, At: pos(2, 15)},
		"stage x in x; guard s if open s;":          {Err: api.ErrCycle, At: pos(2, 1)},
		"guard s if open s;":                        {Err: api.ErrStrata},
		"guard s if done k;":                        {Err: api.ErrStrata},
		"guard s if a < 1 or a < 2 or a < 3 or a < 4; guard t if a < 5 and a < 6 and b = 7;":                    {Err: api.ErrLong},
		"guard s if a < 1 or a < 2 or a < 3 or a < 4 or open s; milestone x of t if a < 5 and a < 6 and b = 7;": {Err: api.ErrLong},
	} {
		if m, f, lang := model.Read(base + s); !reflect.DeepEqual(m, api.Model{}) || f != want || lang {
			t.Errorf("%q: %v %v, not %v", s, f, lang, want)
		}
	}
	for _, s := range []string{"guard s if a < 1 or a < 2 or a < 3 or a < 4; guard t if a < 5 and a < 6 and b = 6 and 1 < b;", "event x by r in s sets a max 3; event y by r in s sets b max 1;", "event x by r in s sets a, b max 2;", "event x by r in s max 3;", "stage x in y; stage y;"} {
		read(t, base+s)
	}
	for s, want := range map[string]api.Fault{"user": {Err: api.ErrToken, At: pos(1, 5)}, "user u; user u; !": {Err: api.ErrChar, At: pos(1, 17)}, "user u; user u; guard s if ;": {Err: api.ErrToken, At: pos(1, 28)}} {
		if m, f, lang := model.Read(s); !reflect.DeepEqual(m, api.Model{}) || f != want || !lang {
			t.Errorf("%q: %v %v", s, f, lang)
		}
	}
}

func TestBuiltByHand(t *testing.T) {
	at := pos(7, 8)
	base := []api.Stmt{{Kind: api.StAttr, Name: "a"}, {Kind: api.StUser, Name: "u"}, {Kind: api.StRole, Name: "r", Names: []string{"u"}}, {Kind: api.StStage, Name: "s"}, {Kind: api.StEvent, Name: "e", Role: "r", Stage: "s"}}
	long := []api.Item{{Op: api.OpTrue}}
	for range api.MaxItems {
		long = append(long, api.Item{Op: api.OpNot})
	}
	for i, x := range []struct {
		s    api.Stmt
		want api.Errno
	}{
		{api.Stmt{Kind: 0}, api.ErrKind}, {api.Stmt{Kind: 9}, api.ErrKind}, {api.Stmt{Kind: api.StRole, Name: "q"}, api.ErrForm},
		{api.Stmt{Kind: api.StEvent, Name: "x", Role: "r", Stage: "s", Times: -1}, api.ErrBound}, {api.Stmt{Kind: api.StEvent, Name: "x", Role: "r", Stage: "s", Times: api.MaxTimes + 1}, api.ErrBound}, {api.Stmt{Kind: api.StEvent, Name: "x", Role: "r", Stage: "s", Times: math.MaxInt, Names: []string{"a"}}, api.ErrBound},
		{api.Stmt{Kind: api.StEvent, Name: "x", Stage: "s"}, api.ErrName}, {api.Stmt{Kind: api.StEvent, Name: "x", Role: "r"}, api.ErrName}, {api.Stmt{Kind: api.StGuard}, api.ErrName}, {api.Stmt{Kind: api.StMile, Name: "m"}, api.ErrName},
		{api.Stmt{Kind: api.StSod}, api.ErrForm}, {api.Stmt{Kind: api.StSod, Names: []string{"e"}}, api.ErrForm}, {api.Stmt{Kind: api.StSod, Names: []string{"e", "e", "e"}}, api.ErrTwice}, {api.Stmt{Kind: api.StSod, Names: []string{"x"}}, api.ErrName},
		{api.Stmt{Kind: api.StGuard, Stage: "s", If: long}, api.ErrLong}, {api.Stmt{Kind: api.StGuard, Stage: "s", If: long[1:2]}, api.ErrForm}, {api.Stmt{Kind: api.StGuard, Stage: "q", If: long}, api.ErrName}, {api.Stmt{Kind: api.StGuard, Stage: "s", Event: "q", If: long}, api.ErrName},
		{api.Stmt{Kind: api.StGuard, Stage: "s", If: []api.Item{{Op: api.OpCan, Name: "q"}}}, api.ErrForm}, {api.Stmt{Kind: api.StGuard, Stage: "s", If: []api.Item{{Op: api.OpDid, Name: "e", User: "u"}}}, api.ErrForm}, {api.Stmt{Kind: api.StMile, Name: "m", Stage: "s", If: []api.Item{{Op: api.OpStuck}}}, api.ErrForm}, {api.Stmt{Kind: api.StMile, Name: "m", Stage: "s", If: []api.Item{{Op: api.OpComplete}}}, api.ErrForm},
		{api.Stmt{Kind: api.StGuard, Stage: "s", If: []api.Item{{Op: api.OpTrue}, {Op: api.OpAX}}}, api.ErrForm}, {api.Stmt{Kind: api.StGuard, Stage: "s", If: []api.Item{{Op: api.OpTrue}, {Op: api.OpTrue}, {Op: api.OpEU}}}, api.ErrForm},
	} {
		x.s.At = at
		if m, f := model.Build(append(base[:len(base):len(base)], x.s)); !reflect.DeepEqual(m, api.Model{}) || f != (api.Fault{Err: x.want, At: at}) {
			t.Error(i, f)
		}
	}
	three := append(base[:len(base):len(base)], api.Stmt{Kind: api.StEvent, Name: "f", Role: "r", Stage: "s"}, api.Stmt{Kind: api.StEvent, Name: "g", Role: "r", Stage: "s"}, api.Stmt{Kind: api.StSod, Names: []string{"e", "f", "g"}, At: at})
	if _, f := model.Build(three); f != (api.Fault{Err: api.ErrForm, At: at}) {
		t.Error(f)
	}
	// what is handed out is new memory
	l := append(base[:len(base):len(base)], api.Stmt{Kind: api.StGuard, Stage: "s", If: []api.Item{{Op: api.OpTrue}}})
	m, _ := model.Build(l)
	m.Guards[0].If[0].Op = 99
	m.Attrs[0] = "x"
	if l[5].If[0].Op != api.OpTrue || l[0].Name != "a" {
		t.Error("shared")
	}
}

func TestAtTheLimits(t *testing.T) {
	var b strings.Builder
	kinds := []struct {
		line string
		most int
	}{{"attr a# = 1;", api.MaxAttrs}, {"user u#;", api.MaxUsers}, {"role r# = u1;", api.MaxRoles}, {"stage s#;", api.MaxStages}, {"event e# by r0 in s0;", api.MaxEvents}, {"guard s# if a0 = #;", 6}, {"guard s#;", api.MaxGuards - 6}, {"milestone m# of s#;", api.MaxMiles}, {"sod e#, e1;", 1}, {"sod e2, e3;", api.MaxSods - 1}}
	for _, k := range kinds {
		for i := range k.most {
			b.WriteString(strings.ReplaceAll(k.line, "#", strconv.Itoa(i)) + "\n")
		}
	}
	m := read(t, b.String())
	if !model.Check(m) {
		t.Error("as much as may be")
	}
	if m.Roles[0].Users != 2 {
		t.Error(m.Roles[0])
	}
	for _, k := range kinds {
		line := strings.ReplaceAll(strings.ReplaceAll(k.line, "s#;", "s0;"), "of s#", "of s0")
		if _, f, _ := model.Read(b.String() + strings.ReplaceAll(line, "#", "9")); f.Err == api.OK {
			t.Error("one more", k.line)
		}
	}
}

func TestCircles(t *testing.T) {
	if model.Check(api.Model{Stages: []api.Stage{{Parent: 0}}}) || model.Check(api.Model{Stages: []api.Stage{{Parent: 1}, {Parent: 0}}}) || !model.Check(api.Model{Stages: []api.Stage{{Parent: 1}, {Parent: -1}}}) {
		t.Error("check")
	}
	l := []api.Stmt{{Kind: api.StUser, Name: "u"}, {Kind: api.StStage, Name: "s", Stage: "t", At: pos(2, 2)}, {Kind: api.StUser, Name: "v"}, {Kind: api.StStage, Name: "t", Stage: "s", At: pos(3, 3)}}
	kept := slices.Clone(l)
	if _, f := model.Build(l); f != (api.Fault{Err: api.ErrCycle, At: pos(2, 2)}) {
		t.Error(f)
	}
	if !reflect.DeepEqual(l, kept) {
		t.Error("what is handed in is changed")
	}
}

func TestCheck(t *testing.T) {
	// a fuller model, in which as much as may be of a kind is near
	const text = `attr a = 1; attr b = 2; user u; user v; role r = u v; role q = v; stage s; stage t in s; stage w in t;
event e by r in s sets a, b max 1; event g by q in t sets a max 2; event h by r in s max 3; guard s; guard t on e if a > 5 and 2 = b; guard w;
milestone k of t on g; milestone l of s if done k or a = b final; sod e, g; sod g, h;`
	whole := read(t, text)
	if !model.Check(whole) {
		t.Fatal("what is built may be")
	}
	cond := func(l ...api.Inst) []api.Inst { return l }
	for i, change := range []func(m *api.Model){
		func(m *api.Model) { m.Attrs = append(m.Attrs, "x") }, func(m *api.Model) { m.Inits = append(m.Inits, 1) }, func(m *api.Model) { m.Inits = m.Inits[:1] },
		func(m *api.Model) { m.Attrs, m.Inits = make([]string, 6), make([]int64, 6) }, func(m *api.Model) { m.Users = make([]string, 5) }, func(m *api.Model) { m.Roles = slices.Repeat(m.Roles[:1], 5) },
		func(m *api.Model) { m.Stages = append(m.Stages, slices.Repeat(m.Stages[:1], 6)...) }, func(m *api.Model) { m.Events = append(m.Events, slices.Repeat([]api.Event{{}}, 4)...) }, func(m *api.Model) { m.Sods = slices.Repeat(m.Sods, 4) },
		func(m *api.Model) {
			m.Guards = slices.Repeat(m.Guards[:1], 13)
			m.Order = append(sentries(false, 13), m.Order[3:]...)
		},
		func(m *api.Model) {
			m.Miles = slices.Repeat(m.Miles[:1], 9)
			m.Order = append(m.Order[:3:3], sentries(true, 9)...)
		},
		func(m *api.Model) { m.Roles[0].Users = 0 }, func(m *api.Model) { m.Roles[0].Users = 4 }, func(m *api.Model) { m.Roles[0].Users = -1 }, func(m *api.Model) { m.Roles[0].Users = 1 << 40 }, func(m *api.Model) { m.Roles[1].Users = 1<<40 + 1 },
		func(m *api.Model) { m.Stages[0].Parent = -2 }, func(m *api.Model) { m.Stages[1].Parent = 3 }, func(m *api.Model) { m.Stages[0].Parent = 0 }, func(m *api.Model) { m.Stages[0].Parent = 2 },
		func(m *api.Model) { m.Events[0].Role = 2 }, func(m *api.Model) { m.Events[0].Role = -1 }, func(m *api.Model) { m.Events[1].Stage = 3 }, func(m *api.Model) { m.Events[1].Stage = -1 },
		func(m *api.Model) { m.Events[0].Sets[1] = 2 }, func(m *api.Model) { m.Events[0].Sets[1] = -1 }, func(m *api.Model) { m.Events[0].Sets[1] = 0 }, func(m *api.Model) { m.Events[0].Times = 0 }, func(m *api.Model) { m.Events[2].Times = -1 }, func(m *api.Model) { m.Events[2].Times = 4 }, func(m *api.Model) { m.Events[0].Times = 2 }, func(m *api.Model) { m.Events[2].Sets = []int{1} },
		func(m *api.Model) { m.Guards[0].Stage = 3 }, func(m *api.Model) { m.Guards[0].Stage = -1 }, func(m *api.Model) { m.Guards[0].Event = 3 }, func(m *api.Model) { m.Guards[0].Event = -2 }, func(m *api.Model) { m.Guards[0].If = nil }, func(m *api.Model) { m.Guards[0].If = cond(api.Inst{Op: api.OpNot}) }, func(m *api.Model) { m.Guards[0].If = cond(api.Inst{Op: api.OpCan}) },
		func(m *api.Model) { m.Guards[0].If = cond(api.Inst{Op: api.OpDone, N: 2}) }, func(m *api.Model) { m.Guards[0].If = cond(api.Inst{Op: api.OpLess, L: api.Val{Attr: 2}}) }, func(m *api.Model) { m.Guards[0].If = cond(api.Inst{Op: api.OpTrue}, api.Inst{Op: api.OpEX}) },
		func(m *api.Model) { m.Miles[0].Stage = 3 }, func(m *api.Model) { m.Miles[0].Stage = -1 }, func(m *api.Model) { m.Miles[0].Event = 3 }, func(m *api.Model) { m.Miles[0].Event = -2 }, func(m *api.Model) { m.Miles[0].If = nil }, func(m *api.Model) { m.Miles[0].If = cond(api.Inst{Op: api.OpStuck}) },
		func(m *api.Model) { m.Sods[0].A = 3 }, func(m *api.Model) { m.Sods[0].A = -1 }, func(m *api.Model) { m.Sods[0].B = 3 }, func(m *api.Model) { m.Sods[0].B = -1 }, func(m *api.Model) { m.Sods[0].B = m.Sods[0].A },
		func(m *api.Model) { m.Order = nil }, func(m *api.Model) { m.Order[0], m.Order[2] = m.Order[2], m.Order[0] }, func(m *api.Model) { m.Order = append(m.Order, m.Order[0]) }, func(m *api.Model) { m.Order = m.Order[:4] }, func(m *api.Model) { m.Guards[0].If, m.Order = cond(api.Inst{Op: api.OpOpen}), nil },
		func(m *api.Model) {
			m.Miles[0].If, m.Guards[0].If = numbers(api.MaxConsts), cond(api.Inst{Op: api.OpEqual, R: api.Val{Attr: -1, Num: 100}})
		}, func(m *api.Model) { m.Guards[1].If, m.Miles[0].If = numbers(1), numbers(api.MaxConsts+1) },
	} {
		m := read(t, text)
		change(&m)
		if model.Check(m) {
			t.Error(i, "may not be")
		}
	}
	for i, change := range []func(m *api.Model){
		func(m *api.Model) { m.Attrs = []string{"", ""} }, func(m *api.Model) { m.Users = []string{"X", "X"} }, func(m *api.Model) { m.Sods = append(m.Sods, m.Sods[0]) }, func(m *api.Model) { m.Roles[0].Users = 1 },
		func(m *api.Model) { m.Users = []string{"a", "b", "c", "d"}; m.Roles[0].Users = 15 }, func(m *api.Model) { m.Miles[0].If, m.Guards[1].If = numbers(api.MaxConsts), numbers(1) }, func(m *api.Model) { m.Events[0].Times, m.Events[1].Times = 1, 1 },
	} {
		m := read(t, text)
		change(&m)
		if !model.Check(m) {
			t.Error(i, "may be")
		}
	}
}

func sentries(mile bool, n int) []api.Sentry {
	var l []api.Sentry
	for i := range n {
		l = append(l, api.Sentry{Mile: mile, N: i})
	}
	return l
}

// so many comparisons, with a number each
func numbers(n int) []api.Inst {
	var l []api.Inst
	for i := range n {
		l = append(l, api.Inst{Op: api.OpEqual, R: api.Val{Attr: -1, Num: int64(i)}})
		if i > 0 {
			l = append(l, api.Inst{Op: api.OpAnd})
		}
	}
	return l
}

func TestConsts(t *testing.T) {
	m := read(t, "attr a = 50; stage s; guard s if a < 3 and 9 > a; guard s if a = a or 3 = 3; milestone k of s if a != -7;")
	if l := model.Consts(m, nil); !slices.Equal(l, []int64{-7, 3, 9}) {
		t.Error(l)
	}
	prop := []api.Inst{{Op: api.OpLess, R: api.Val{Attr: -1, Num: 4}}, {Op: api.OpEqual, L: api.Val{Attr: -1, Num: 9}, R: api.Val{Attr: -1, Num: math.MaxInt64}}, {Op: api.OpAnd}}
	if l := model.Consts(m, prop); !slices.Equal(l, []int64{-7, 3, 4, 9, math.MaxInt64}) {
		t.Error(l)
	}
	if len(model.Consts(api.Model{}, nil)) != 0 {
		t.Error("of nothing")
	}
}

func TestProperty(t *testing.T) {
	m := read(t, example)
	for s, want := range map[string][]api.Inst{
		"true":                       {{Op: api.OpTrue}},
		"AG (done k implies done l)": {{Op: api.OpDone}, {Op: api.OpDone, N: 1}, {Op: api.OpImplies}, {Op: api.OpAG}},
		"did v g":                    {{Op: api.OpDid, N: 1, User: 1}},
		"EF (can g and a < 7)":       {{Op: api.OpCan, N: 1}, {Op: api.OpLess, R: api.Val{Attr: -1, Num: 7}}, {Op: api.OpAnd}, {Op: api.OpEF}},
		"open t":                     {{Op: api.OpOpen, N: 1}},
	} {
		if l, f, lang := model.Property(m, s); !slices.Equal(l, want) || f != (api.Fault{}) || lang {
			t.Errorf("%q: %v %v %v", s, l, f, lang)
		}
	}
	six := "a = 1 or a = 2 or a = 3 or a = 4 or a = 6"
	if l, f, lang := model.Property(m, six); len(l) != 9 || f != (api.Fault{}) || lang {
		t.Error(l, f, lang)
	}
	for s, x := range map[string]struct {
		f    api.Fault
		lang bool
	}{
		"":                     {api.Fault{Err: api.ErrToken, At: pos(1, 1)}, true},
		"open":                 {api.Fault{Err: api.ErrToken, At: pos(1, 5)}, true},
		"true true":            {api.Fault{Err: api.ErrToken, At: pos(1, 6)}, true},
		"open q !":             {api.Fault{Err: api.ErrChar, At: pos(1, 8)}, true},
		"open q":               {api.Fault{Err: api.ErrName, At: pos(1, 6)}, false},
		"true and open r":      {api.Fault{Err: api.ErrKind, At: pos(1, 15)}, false},
		"done u":               {api.Fault{Err: api.ErrKind, At: pos(1, 6)}, false},
		"a = s":                {api.Fault{Err: api.ErrKind, At: pos(1, 1)}, false},
		six + " or a = 7":      {api.Fault{Err: api.ErrLong}, false},
		six + " or b = 7":      {api.Fault{Err: api.ErrName, At: pos(1, 46)}, false},
		six + " or a = 5 or a": {api.Fault{Err: api.ErrToken, At: pos(1, 56)}, true},
	} {
		if l, f, lang := model.Property(m, s); len(l) != 0 || f != x.f || lang != x.lang {
			t.Errorf("%q: %v %v %v", s, l, f, lang)
		}
	}
}

func TestWhatIsBuiltMayBe(t *testing.T) {
	rnd := rand.New(rand.NewSource(13))
	lines := strings.Split("attr a = 1;attr b = -2;user u;user v;role r = u;role q = u v;stage s;stage t in s;stage x in t;stage t;event e by r in s;event f by q in t sets a max 2;event g by q in s sets a, b max 1;event g by r in x sets b max 3;guard s;guard t on e;guard t if a < 3;guard x if open s and a != b;guard s if done k;milestone k of s;milestone k of t on f;milestone l of x if done k final;milestone l of s if open t;sod e, f;sod f, g", ";")
	built, faults := 0, map[api.Errno]int{}
	for range 4000 {
		perm := rnd.Perm(len(lines))
		var b strings.Builder
		for _, i := range perm[:rnd.Intn(len(lines))] {
			if rnd.Intn(4) > 0 {
				b.WriteString(lines[i] + ";\n")
			}
		}
		for _, x := range []string{"user u;", "role r = u;", "stage s;", "event e by r in s;", "attr a = 5;"} {
			if rnd.Intn(2) == 0 && !strings.Contains(b.String(), x[:6]) {
				b.WriteString(x + "\n")
			}
		}
		m, f, lang := model.Read(b.String())
		if lang {
			t.Fatal(b.String(), f)
		}
		if f.Err != api.OK {
			faults[f.Err]++
			continue
		}
		built++
		if !model.Check(m) {
			t.Fatal(b.String())
		}
		l, _ := decl.Read(b.String())
		s, _ := page.Text(l)
		if again := read(t, s); !reflect.DeepEqual(m, again) {
			t.Fatal(b.String())
		}
	}
	if built < 100 || len(faults) < 4 {
		t.Error("too few", built, faults)
	}
}
