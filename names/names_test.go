package names_test

import (
	"math"
	"strconv"
	"testing"

	"warder/api"
	"warder/names"
)

var most = map[int]int{api.StAttr: api.MaxAttrs, api.StUser: api.MaxUsers, api.StRole: api.MaxRoles, api.StStage: api.MaxStages, api.StEvent: api.MaxEvents, api.StGuard: api.MaxGuards, api.StMile: api.MaxMiles, api.StSod: api.MaxSods}

func stmt(kind int, name string, line int) api.Stmt {
	return api.Stmt{Kind: kind, Name: name, At: api.Pos{Line: line, Col: 1}}
}

func TestExample(t *testing.T) {
	x, f := names.Build([]api.Stmt{stmt(api.StUser, "u", 1), stmt(api.StStage, "s", 1), stmt(api.StUser, "v", 1)})
	if f != (api.Fault{}) {
		t.Fatal(f)
	}
	for name, want := range map[string][2]int{"u": {api.StUser, 0}, "s": {api.StStage, 0}, "v": {api.StUser, 1}} {
		kind, n, ok := x.Find(name)
		if !ok || kind != want[0] || n != want[1] || x.Name(kind, n) != name {
			t.Error(name, kind, n, ok)
		}
		for k := -1; k < 11; k++ {
			n, e := x.Need(name, k)
			if k == want[0] && (n != want[1] || e != api.OK) || k != want[0] && (n != 0 || e != api.ErrKind) {
				t.Error(name, k, n, e)
			}
		}
	}
	if kind, n, ok := x.Find("w"); kind != 0 || n != 0 || ok {
		t.Error(kind, n, ok)
	}
	if n, e := x.Need("w", api.StUser); n != 0 || e != api.ErrName {
		t.Error(n, e)
	}
	for _, p := range [][2]int{{api.StUser, 2}, {api.StUser, -1}, {api.StStage, 1}, {api.StAttr, 0}, {0, 0}, {-1, 0}, {9, 0}, {math.MaxInt, math.MinInt}} {
		if s := x.Name(p[0], p[1]); s != "" {
			t.Error(p, s)
		}
	}
	for kind, want := range map[int]int{api.StUser: 2, api.StStage: 1, api.StAttr: 0, 0: 0, -1: 0, 9: 0, math.MaxInt: 0, math.MinInt: 0} {
		if n := x.Count(kind); n != want {
			t.Error(kind, n)
		}
	}
}

func TestGuardsAndSods(t *testing.T) {
	x, f := names.Build([]api.Stmt{stmt(api.StGuard, "g", 1), stmt(api.StGuard, "g", 2), stmt(api.StSod, "g", 3), stmt(api.StUser, "g", 4)})
	if f != (api.Fault{}) || x.Count(api.StGuard) != 2 || x.Count(api.StSod) != 1 || x.Name(api.StGuard, 0) != "" || x.Name(api.StSod, 0) != "" {
		t.Fatal(f)
	}
	if kind, n, ok := x.Find("g"); kind != api.StUser || n != 0 || !ok {
		t.Error(kind, n, ok)
	}
	x, _ = names.Build([]api.Stmt{stmt(api.StGuard, "g", 1)})
	if _, _, ok := x.Find("g"); ok {
		t.Error("a guard has no name")
	}
	if _, _, ok := x.Find(""); ok {
		t.Error("nothing is no name")
	}
}

func TestFaults(t *testing.T) {
	at := func(e api.Errno, line int) api.Fault { return api.Fault{Err: e, At: api.Pos{Line: line, Col: 1}} }
	for i, x := range []struct {
		l    []api.Stmt
		want api.Fault
	}{
		{[]api.Stmt{stmt(0, "a", 1)}, at(api.ErrKind, 1)}, {[]api.Stmt{stmt(9, "a", 1)}, at(api.ErrKind, 1)}, {[]api.Stmt{stmt(-1, "a", 1)}, at(api.ErrKind, 1)}, {[]api.Stmt{stmt(math.MinInt, "a", 1)}, at(api.ErrKind, 1)}, {[]api.Stmt{stmt(math.MaxInt, "a", 1)}, at(api.ErrKind, 1)},
		{[]api.Stmt{stmt(1, "a", 1), stmt(9, "a", 2)}, at(api.ErrKind, 2)}, {[]api.Stmt{stmt(1, "a", 1), stmt(1, "b", 2), stmt(4, "a", 3), stmt(0, "", 4)}, at(api.ErrTwice, 3)}, {[]api.Stmt{stmt(1, "a", 1), stmt(1, "a", 2)}, at(api.ErrTwice, 2)}, {[]api.Stmt{stmt(2, "", 1), stmt(3, "", 2)}, at(api.ErrTwice, 2)},
	} {
		if got, f := names.Build(x.l); got != nil || f != x.want {
			t.Error(i, got, f)
		}
	}
	for kind, n := range most {
		var l []api.Stmt
		for i := range n {
			l = append(l, stmt(kind, "x"+strconv.Itoa(i), i+1))
		}
		got, f := names.Build(l)
		if f != (api.Fault{}) || got.Count(kind) != n {
			t.Error(kind, f)
		}
		// too many goes ahead of told twice
		for _, name := range []string{"y", "x0"} {
			if got, f := names.Build(append(l[:n:n], stmt(kind, name, 99))); got != nil || f != at(api.ErrLong, 99) {
				t.Error(kind, name, f)
			}
		}
	}
}

func TestNil(t *testing.T) {
	var x *names.Table
	if kind, n, ok := x.Find("a"); kind != 0 || n != 0 || ok {
		t.Error("find")
	}
	if n, e := x.Need("a", 1); n != 0 || e != api.ErrName {
		t.Error("need")
	}
	if x.Name(1, 0) != "" || x.Count(1) != 0 {
		t.Error("name, count")
	}
	if x, f := names.Build(nil); x == nil || f != (api.Fault{}) || x.Count(1) != 0 {
		t.Error("of nothing there is a table")
	}
}

func TestNamesLeadBack(t *testing.T) {
	var l []api.Stmt
	for kind := api.StSod; kind >= api.StAttr; kind-- {
		for i := range most[kind] {
			l = append(l, stmt(kind, "k"+strconv.Itoa(kind)+"_"+strconv.Itoa(i), len(l)+1))
		}
	}
	// kinds in between one another
	var mixed []api.Stmt
	for i := range l {
		mixed = append(mixed, l[i*5%len(l)])
	}
	if len(l)%5 == 0 {
		t.Fatal("some statements would stand twice")
	}
	x, f := names.Build(mixed)
	if f.Err != api.OK {
		t.Fatal(f)
	}
	seen := map[int]int{}
	for _, s := range mixed {
		n := seen[s.Kind]
		seen[s.Kind]++
		kind, k, ok := x.Find(s.Name)
		if s.Kind == api.StGuard || s.Kind == api.StSod {
			if ok {
				t.Error(s.Name)
			}
			continue
		}
		if !ok || kind != s.Kind || k != n || x.Name(kind, k) != s.Name {
			t.Error(s.Name, kind, k, ok)
		}
	}
	for kind, n := range most {
		if x.Count(kind) != n {
			t.Error(kind, x.Count(kind))
		}
	}
}
