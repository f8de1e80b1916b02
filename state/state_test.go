package state_test

import (
	"math"
	"math/rand"
	"slices"
	"strings"
	"testing"

	"warder/api"
	"warder/state"
)

func TestStart(t *testing.T) {
	m := api.Model{Attrs: []string{"a"}, Inits: []int64{5}, Events: make([]api.Event, 1)}
	s := state.Start(m)
	if g := state.Text(s); g != "1 5 0 0 1 0 1 0" {
		t.Error(g)
	}
	s.Vals[0], s.Did[0] = 9, 9
	if m.Inits[0] != 5 || s.Count[0] != 0 {
		t.Error("shared")
	}
	if s := state.Start(api.Model{}); state.Text(s) != "0 0 0 0 0" {
		t.Error(s)
	}
	if s := state.Start(api.Model{Inits: []int64{7, -8}}); !slices.Equal(s.Vals, []int64{7, -8}) {
		t.Error(s)
	}
}

func TestCheck(t *testing.T) {
	m := api.Model{Attrs: []string{"a", "b"}, Users: make([]string, 2), Stages: make([]api.Stage, 3), Miles: make([]api.Mile, 1), Events: []api.Event{{}, {Times: 2}}}
	good := func() api.State {
		return api.State{Vals: []int64{math.MaxInt64, -4}, Open: 7, Done: 1, Did: []int{3, 0}, Count: []int{0, 2}}
	}
	if !state.Check(m, good()) || !state.Check(api.Model{}, api.State{}) {
		t.Fatal("may be")
	}
	for i, change := range []func(s *api.State){
		func(s *api.State) { s.Vals = s.Vals[:1] }, func(s *api.State) { s.Vals = append(s.Vals, 0) }, func(s *api.State) { s.Did = s.Did[:1] }, func(s *api.State) { s.Did = append(s.Did, 0) }, func(s *api.State) { s.Count = s.Count[:1] }, func(s *api.State) { s.Count = append(s.Count, 0) },
		func(s *api.State) { s.Open = 8 }, func(s *api.State) { s.Open = -1 }, func(s *api.State) { s.Open = 1 << 31 }, func(s *api.State) { s.Open = 1<<40 + 1 }, func(s *api.State) { s.Open = math.MinInt },
		func(s *api.State) { s.Done = 2 }, func(s *api.State) { s.Done = -1 }, func(s *api.State) { s.Done = 1 << 31 }, func(s *api.State) { s.Did[0] = 4 }, func(s *api.State) { s.Did[1] = -1 }, func(s *api.State) { s.Did[1] = 1 << 33 },
		func(s *api.State) { s.Count[0] = 1 }, func(s *api.State) { s.Count[0] = -1 }, func(s *api.State) { s.Count[1] = 3 }, func(s *api.State) { s.Count[1] = math.MinInt },
	} {
		s := good()
		change(&s)
		if state.Check(m, s) {
			t.Error(i, s)
		}
	}
	many := api.Model{Stages: make([]api.Stage, 31), Miles: make([]api.Mile, 31)}
	if !state.Check(many, api.State{Open: math.MaxInt32, Done: math.MaxInt32}) || state.Check(many, api.State{Open: 1 << 31}) || state.Check(many, api.State{Done: -1}) {
		t.Error("all of 31")
	}
	for _, change := range []func(s *api.State){func(s *api.State) { s.Open = 0 }, func(s *api.State) { s.Done = 0 }, func(s *api.State) { s.Count[1] = 0 }, func(s *api.State) { s.Did[0] = 2 }} {
		s := good()
		change(&s)
		if !state.Check(m, s) {
			t.Error(s)
		}
	}
}

func TestSound(t *testing.T) {
	m := api.Model{Stages: []api.Stage{{Parent: -1}, {Parent: 0}, {Parent: 1}, {Parent: 5}, {Parent: -7}}}
	for open, want := range map[int]bool{0: true, 1: true, 3: true, 7: true, 2: false, 6: false, 5: false, 4: false, 8: true, 16: true, 25: true, 31: true, 30: false} {
		if g := state.Sound(m, api.State{Open: open}); g != want {
			t.Error(open, g)
		}
	}
	if !state.Sound(api.Model{}, api.State{Open: 5}) {
		t.Error("no stages")
	}
}

func TestLeft(t *testing.T) {
	m := api.Model{Events: []api.Event{{Sets: []int{0, 1}, Times: 3}, {Sets: []int{0}}, {Times: 2}, {Sets: []int{0}, Times: 1}, {Sets: []int{0}, Times: -5}}}
	for i, x := range []struct {
		count []int
		want  int
	}{
		{nil, 7}, {[]int{0, 0, 0, 0, 0}, 7}, {[]int{1, 0, 0, 0, 0}, 5}, {[]int{3, 0, 2, 1, 0}, 0}, {[]int{4, 9, 9, 0}, 1}, {[]int{-2}, 7}, {[]int{2, 5}, 3}, {[]int{math.MaxInt, 0, 0, math.MinInt}, 1}, {[]int{0, 0, 0, 0, -9, 7, 7}, 7},
	} {
		if g := state.Left(m, x.count); g != x.want {
			t.Error(i, g)
		}
	}
	if state.Left(api.Model{}, []int{1}) != 0 {
		t.Error("no events")
	}
}

func TestSame(t *testing.T) {
	a := api.State{Vals: []int64{1, 2}, Open: 3, Done: 4, Did: []int{5}, Count: []int{6}}
	for i, b := range []api.State{
		{Vals: []int64{1, 3}, Open: 3, Done: 4, Did: []int{5}, Count: []int{6}}, {Vals: []int64{1}, Open: 3, Done: 4, Did: []int{5}, Count: []int{6}}, {Vals: []int64{1, 2}, Open: 2, Done: 4, Did: []int{5}, Count: []int{6}},
		{Vals: []int64{1, 2}, Open: 3, Done: 5, Did: []int{5}, Count: []int{6}}, {Vals: []int64{1, 2}, Open: 3, Done: 4, Did: []int{4}, Count: []int{6}}, {Vals: []int64{1, 2}, Open: 3, Done: 4, Did: []int{5, 0}, Count: []int{6}}, {Vals: []int64{1, 2}, Open: 3, Done: 4, Did: []int{5}, Count: []int{7}}, {Vals: []int64{1, 2}, Open: 3, Done: 4, Did: []int{5}},
	} {
		if state.Same(a, b) || state.Same(b, a) || state.Text(a) == state.Text(b) {
			t.Error(i)
		}
	}
	b := api.State{Vals: []int64{1, 2}, Open: 3, Done: 4, Did: []int{5}, Count: []int{6}}
	if !state.Same(a, b) || !state.Same(api.State{}, api.State{Vals: []int64{}, Did: []int{}, Count: []int{}}) {
		t.Error("same")
	}
}

func TestText(t *testing.T) {
	s := api.State{Vals: []int64{-5, math.MinInt64}, Open: 3, Done: -1, Did: []int{1, 2, 3}, Count: []int{7}}
	if g := state.Text(s); g != "2 -5 -9223372036854775808 3 -1 3 1 2 3 1 7" {
		t.Error(g)
	}
}

func list(n int, x string) string { return strings.Repeat(" "+x, n) }

func TestRead(t *testing.T) {
	for _, s := range []string{
		"", " ", "0", "0 0 0 0", "0 0 0 0 0 0", "0 0 0 0 0 ", " 0 0 0 0 0", "0  0 0 0 0", "00 0 0 0 0", "0 0 0 0 -0", "0 +1 0 0 0", "0 01 0 0 0", "0 x 0 0 0", "-1 0 0 0 0", "0 0 0 -1 0", "1 0 0 0 0", "2 1 0 0 0 0", "0 0 0 1 0", "0 0 0 0 1", "0 0 0 0 1 2 3",
		"0 9223372036854775808 0 0 0", "1 9223372036854775808 0 0 0 0", "0\n0 0 0 0", "0 0 0 0 0\n", "0 0 0 0 3 1 2", "3 1 2 0 0 0", "0 0 0 2 1 0",
	} {
		if g, e := state.Read(s); e != api.ErrForm || !state.Same(g, api.State{}) {
			t.Errorf("%q: %v %v", s, g, e)
		}
	}
	for i, s := range []string{"101" + list(101, "1") + " 0 0 0 0", "0 0 0 101" + list(101, "1") + " 0", "0 0 0 0 101" + list(101, "1"), "500" + list(500, "-3") + " 0 0 300" + list(300, "1") + " 200" + list(200, "1")} {
		if g, e := state.Read(s); e != api.ErrLong || !state.Same(g, api.State{}) {
			t.Error(i, e)
		}
	}
	// numbers of how many that nobody could go through
	for _, s := range []string{"9223372036854775807 0 0 0 0", "0 0 0 9223372036854775807 0", "0 0 0 0 9223372036854775807", "9223372036854775807"} {
		if g, e := state.Read(s); e == api.OK || !state.Same(g, api.State{}) {
			t.Errorf("%q: %v %v", s, g, e)
		}
	}
	full := "100" + list(100, "7") + " 1 2 100" + list(100, "8") + " 100" + list(100, "9")
	if g, e := state.Read(full); e != api.OK || state.Text(g) != full || len(g.Vals) != 100 || g.Did[99] != 8 || g.Count[99] != 9 || g.Open != 1 || g.Done != 2 {
		t.Error("as long as may be", e)
	}
}

func TestWhatIsToldIsRead(t *testing.T) {
	rnd := rand.New(rand.NewSource(15))
	number := func() int { return int(rnd.Uint64()) >> rnd.Intn(64) }
	texts := map[string]api.State{}
	for range 3000 {
		s := api.State{Open: number(), Done: number()}
		for range rnd.Intn(4) {
			s.Vals = append(s.Vals, int64(number()))
		}
		for range rnd.Intn(3) {
			s.Did = append(s.Did, number())
		}
		for range rnd.Intn(3) {
			s.Count = append(s.Count, number())
		}
		x := state.Text(s)
		if g, e := state.Read(x); e != api.OK || !state.Same(g, s) {
			t.Fatal(x, g, e)
		}
		if o, ok := texts[x]; ok && !state.Same(o, s) {
			t.Fatal(x)
		}
		texts[x] = s
	}
}
