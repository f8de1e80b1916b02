package rights_test

import (
	"math"
	"math/rand"
	"slices"
	"testing"

	"warder/api"
	"warder/rights"
)

// base: stages 0 and 1; roles of users 0 and 1, and of user 1; events 0, 1 (twice at most) and 2; 0 and 1, and 1 and 2 are apart; milestone 1 is final.
func base() (api.Model, api.State) {
	m := api.Model{
		Users: []string{"u", "v"}, Roles: []api.Role{{Users: 3}, {Users: 2}}, Stages: []api.Stage{{Parent: -1}, {Parent: 0}},
		Events: []api.Event{{Role: 0, Stage: 0}, {Role: 0, Stage: 0, Times: 2}, {Role: 1, Stage: 1}},
		Miles:  []api.Mile{{}, {Final: true}}, Sods: []api.Sod{{A: 0, B: 1}, {A: 2, B: 1}},
	}
	return m, api.State{Open: 3, Did: []int{0, 0, 0}, Count: []int{0, 0, 0}}
}

func TestExample(t *testing.T) {
	m := api.Model{Users: []string{"u"}, Roles: []api.Role{{Users: 1}}, Stages: []api.Stage{{Parent: -1}}, Events: []api.Event{{}, {}}, Sods: []api.Sod{{A: 0, B: 1}}}
	s := api.State{Open: 1, Did: []int{1, 0}, Count: []int{0, 0}}
	if !rights.Free(m, s, 1, 0) || rights.Enabled(m, s, 1, 0) || !rights.Enabled(m, s, 0, 0) || rights.Stuck(m, s) {
		t.Error("the other one is free, and not enabled")
	}
	m.Events[0].Times, s.Count[0] = 1, 1
	if !rights.Stuck(m, s) || rights.Any(m, s) {
		t.Error("stuck")
	}
}

func TestComplete(t *testing.T) {
	m, s := base()
	for done, want := range map[int]bool{0: false, 1: false, 2: true, 3: true, 4: false, -1: true, 1 << 32: false} {
		s.Done = done
		if rights.Complete(m, s) != want {
			t.Error(done)
		}
	}
	if rights.Complete(api.Model{}, s) {
		t.Error("of nothing")
	}
}

// free tells for whom events are free, by pairs.
func pairs(m api.Model, s api.State, of func(api.Model, api.State, int, int) bool) [][2]int {
	var l [][2]int
	for e := -2; e < 6; e++ {
		for u := -2; u < 6; u++ {
			if of(m, s, e, u) {
				l = append(l, [2]int{e, u})
			}
		}
	}
	return l
}

func TestFree(t *testing.T) {
	all := [][2]int{{0, 0}, {0, 1}, {1, 0}, {1, 1}, {2, 1}}
	for i, x := range []struct {
		change func(m *api.Model, s *api.State)
		want   [][2]int
	}{
		{func(m *api.Model, s *api.State) {}, all},
		{func(m *api.Model, s *api.State) { s.Done = 1 }, all}, {func(m *api.Model, s *api.State) { s.Done = 2 }, nil},
		{func(m *api.Model, s *api.State) { s.Open = 1 }, all[:4]}, {func(m *api.Model, s *api.State) { s.Open = 2 }, all[4:]}, {func(m *api.Model, s *api.State) { s.Open = 0 }, nil},
		{func(m *api.Model, s *api.State) { s.Count[1] = 1 }, all}, {func(m *api.Model, s *api.State) { s.Count[1] = 2 }, [][2]int{{0, 0}, {0, 1}, {2, 1}}}, {func(m *api.Model, s *api.State) { s.Count[1] = 3 }, [][2]int{{0, 0}, {0, 1}, {2, 1}}}, {func(m *api.Model, s *api.State) { s.Count[0] = 99 }, all}, {func(m *api.Model, s *api.State) { m.Events[0].Times, s.Count[0] = -3, 5 }, all},
		{func(m *api.Model, s *api.State) { s.Did = []int{3, 3, 3} }, all}, {func(m *api.Model, s *api.State) { s.Did, s.Count = nil, nil }, all},
		{func(m *api.Model, s *api.State) { m.Users = m.Users[:1] }, [][2]int{{0, 0}, {1, 0}}}, {func(m *api.Model, s *api.State) { m.Roles = m.Roles[:1] }, all[:4]}, {func(m *api.Model, s *api.State) { m.Stages = m.Stages[:1] }, all[:4]}, {func(m *api.Model, s *api.State) { m.Events = m.Events[:1] }, all[:2]}, {func(m *api.Model, s *api.State) { m.Miles, s.Done = m.Miles[:1], 2 }, all},
		{func(m *api.Model, s *api.State) { m.Events[0].Role = -1 }, all[2:]}, {func(m *api.Model, s *api.State) { m.Events[0].Stage = -1 }, all[2:]}, {func(m *api.Model, s *api.State) { m.Events[0].Role = 2 }, all[2:]}, {func(m *api.Model, s *api.State) { m.Events[0].Stage, s.Open = 2, 7 }, all[2:]}, {func(m *api.Model, s *api.State) { m.Roles[0].Users = -1 }, all}, {func(m *api.Model, s *api.State) { m.Roles[0].Users = 4 }, all[4:]},
		{func(m *api.Model, s *api.State) { *m = api.Model{} }, nil},
	} {
		m, s := base()
		x.change(&m, &s)
		if g := pairs(m, s, rights.Free); !slices.Equal(g, x.want) {
			t.Error(i, g)
		}
		m.Sods = nil
		if g := pairs(m, s, rights.Enabled); !slices.Equal(g, x.want) {
			t.Error("enabled", i, g)
		}
	}
	m, s := base()
	for _, n := range []int{math.MinInt, math.MaxInt, 64, -64} {
		if rights.Free(m, s, n, 0) || rights.Free(m, s, 0, n) || rights.Enabled(m, s, n, n) || rights.Can(m, s, n) || len(rights.Who(m, s, n)) > 0 {
			t.Error(n)
		}
	}
}

func TestEnabled(t *testing.T) {
	for i, x := range []struct {
		did  []int
		want [][2]int
	}{
		{[]int{0, 0, 0}, [][2]int{{0, 0}, {0, 1}, {1, 0}, {1, 1}, {2, 1}}}, {[]int{1, 0, 0}, [][2]int{{0, 0}, {0, 1}, {1, 1}, {2, 1}}}, {[]int{0, 1, 0}, [][2]int{{0, 1}, {1, 0}, {1, 1}, {2, 1}}}, {[]int{0, 2, 0}, [][2]int{{0, 0}, {1, 0}, {1, 1}}}, {[]int{0, 0, 2}, [][2]int{{0, 0}, {0, 1}, {1, 0}, {2, 1}}}, {[]int{3, 3, 3}, nil}, {[]int{3}, [][2]int{{0, 0}, {0, 1}, {2, 1}}}, {nil, [][2]int{{0, 0}, {0, 1}, {1, 0}, {1, 1}, {2, 1}}},
	} {
		m, s := base()
		s.Did = x.did
		if g := pairs(m, s, rights.Enabled); !slices.Equal(g, x.want) {
			t.Error(i, g)
		}
	}
}

// TestBeyond: what a state has in Did counts, of events that the model does not have, too.
func TestBeyond(t *testing.T) {
	all := [][2]int{{0, 0}, {0, 1}, {1, 0}, {1, 1}, {2, 1}}
	for i, x := range []struct {
		sods []api.Sod
		did  []int
		want [][2]int
	}{
		{[]api.Sod{{A: 0, B: 3}}, []int{0, 0, 0, 1}, all[1:]}, {[]api.Sod{{A: 3, B: 0}}, []int{0, 0, 0, 1}, all[1:]}, {[]api.Sod{{A: 0, B: 3}}, []int{0, 0, 0, 2}, [][2]int{{0, 0}, {1, 0}, {1, 1}, {2, 1}}}, {[]api.Sod{{A: 0, B: 3}}, []int{0, 0, 0, 3}, all[2:]}, {[]api.Sod{{A: 40, B: 2}}, append(make([]int, 40), 2), all[:4]},
		// another user, another event, a Did that the state has not, no event at all
		{[]api.Sod{{A: 0, B: 3}}, []int{0, 0, 0, 4}, all}, {[]api.Sod{{A: 0, B: 4}}, []int{0, 0, 0, 3}, all}, {[]api.Sod{{A: 0, B: 3}}, []int{3, 3, 3}, all}, {[]api.Sod{{A: 3, B: 4}}, []int{0, 0, 0, 3, 3}, all}, {[]api.Sod{{A: 0, B: 9}, {A: -1, B: 0}, {A: 0, B: math.MinInt}, {A: math.MaxInt, B: 0}}, []int{3, 3, 3, 3}, all},
	} {
		m, s := base()
		m.Sods, s.Did = x.sods, x.did
		if g := pairs(m, s, rights.Enabled); !slices.Equal(g, x.want) {
			t.Error(i, g)
		}
		if g := pairs(m, s, rights.Free); !slices.Equal(g, all) {
			t.Error("free", i, g)
		}
	}
	// the one event there is, and another one, that there is not
	m := api.Model{Users: []string{"u"}, Roles: []api.Role{{Users: 1}}, Stages: []api.Stage{{Parent: -1}}, Events: []api.Event{{}}, Sods: []api.Sod{{A: 0, B: 1}}}
	s := api.State{Open: 1, Did: []int{0, 1}, Count: []int{0, 0}}
	if !rights.Free(m, s, 0, 0) || rights.Enabled(m, s, 0, 0) || len(rights.Who(m, s, 0)) > 0 || rights.Can(m, s, 0) || rights.Any(m, s) || !rights.Stuck(m, s) {
		t.Error("had a part in the other one")
	}
	s.Did = s.Did[:1]
	if !rights.Enabled(m, s, 0, 0) || !slices.Equal(rights.Who(m, s, 0), []int{0}) || !rights.Can(m, s, 0) || !rights.Any(m, s) || rights.Stuck(m, s) {
		t.Error("what lies behind the list's end is no Did of the state")
	}
}

func TestStuck(t *testing.T) {
	m, s := base()
	if rights.Stuck(m, s) || !rights.Any(m, s) {
		t.Error("at first")
	}
	s.Did = []int{3, 3, 3}
	if !rights.Stuck(m, s) || rights.Any(m, s) {
		t.Error("all had a part in all")
	}
	s.Done = 2
	if rights.Stuck(m, s) {
		t.Error("complete")
	}
	s.Done, s.Open = 0, 0
	if rights.Stuck(m, s) {
		t.Error("nothing is open")
	}
	s.Open, m.Roles = 3, nil
	if rights.Stuck(m, s) {
		t.Error("nothing is free")
	}
	if rights.Stuck(api.Model{}, api.State{}) || rights.Any(api.Model{}, api.State{}) {
		t.Error("of nothing")
	}
}

// apart tells whether a user had a part in an event that a sod names together with this one, by all that the state has in Did.
func apart(m api.Model, s api.State, event, user int) bool {
	for other, users := range s.Did {
		if users>>user&1 == 1 && (slices.Contains(m.Sods, api.Sod{A: event, B: other}) || slices.Contains(m.Sods, api.Sod{A: other, B: event})) {
			return true
		}
	}
	return false
}

func TestItFollows(t *testing.T) {
	rnd := rand.New(rand.NewSource(17))
	stuck := 0
	for range 5000 {
		m := api.Model{Users: make([]string, rnd.Intn(4)), Roles: []api.Role{{Users: rnd.Intn(8)}, {Users: rnd.Intn(8)}}, Stages: make([]api.Stage, 2), Miles: []api.Mile{{Final: rnd.Intn(4) == 0}}}
		s := api.State{Open: rnd.Intn(4), Done: rnd.Intn(2)}
		for range rnd.Intn(4) {
			m.Events = append(m.Events, api.Event{Role: rnd.Intn(2), Stage: rnd.Intn(2), Times: rnd.Intn(3)})
			s.Did, s.Count = append(s.Did, rnd.Intn(8)), append(s.Count, rnd.Intn(3))
		}
		// a state may have more, or less, than the model has events
		for range rnd.Intn(3) {
			s.Did = append(s.Did, rnd.Intn(8))
		}
		s.Did = s.Did[min(rnd.Intn(2)*rnd.Intn(2), len(s.Did)):]
		for range rnd.Intn(4) {
			m.Sods = append(m.Sods, api.Sod{A: rnd.Intn(4), B: rnd.Intn(4)})
		}
		free, any := false, false
		for e := range m.Events {
			var who []int
			for u := range m.Users {
				f, n := rights.Free(m, s, e, u), rights.Enabled(m, s, e, u)
				if n && !f {
					t.Fatal("enabled, not free")
				}
				if n != (f && !apart(m, s, e, u)) {
					t.Fatal("enabled", m, s, e, u)
				}
				free = free || f
				any = any || n
				if n {
					who = append(who, u)
				}
			}
			if !slices.Equal(who, rights.Who(m, s, e)) || rights.Can(m, s, e) != (len(who) > 0) {
				t.Fatal(who)
			}
		}
		if rights.Any(m, s) != any {
			t.Fatal("any")
		}
		want := s.Open != 0 && !rights.Complete(m, s) && !any && free
		if rights.Stuck(m, s) != want {
			t.Fatal("stuck")
		}
		if want {
			stuck++
		}
		m.Sods = nil
		if rights.Stuck(m, s) {
			t.Fatal("without sods")
		}
	}
	if stuck < 50 {
		t.Error("too few are stuck:", stuck)
	}
}
