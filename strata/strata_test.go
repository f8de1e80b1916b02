package strata_test

import (
	"math"
	"math/rand"
	"slices"
	"testing"

	"warder/api"
	"warder/strata"
)

func guard(n int) api.Sentry { return api.Sentry{N: n} }

func mile(n int) api.Sentry { return api.Sentry{Mile: true, N: n} }

func open(n int) []api.Inst { return []api.Inst{{Op: api.OpOpen, N: n}} }

func done(n int) []api.Inst { return []api.Inst{{Op: api.OpDone, N: n}} }

func TestExample(t *testing.T) {
	m := api.Model{Stages: []api.Stage{{Parent: -1}}, Guards: []api.Guard{{Stage: 0}}, Miles: []api.Mile{{Stage: 0}}}
	if g := strata.All(m); !slices.Equal(g, []api.Sentry{guard(0), mile(0)}) {
		t.Error(g)
	}
	if l, e := strata.Order(m); !slices.Equal(l, []api.Sentry{guard(0), mile(0)}) || e != api.OK {
		t.Error(l, e)
	}
	if l, e := strata.Order(api.Model{}); len(l) != 0 || e != api.OK || len(strata.All(api.Model{})) != 0 {
		t.Error(l, e)
	}
}

// stages: 1 lies in 0, 2 in 1, 3 in nothing; of each a guard, and a milestone, of its number.
func nested() api.Model {
	m := api.Model{Stages: []api.Stage{{Parent: -1}, {Parent: 0}, {Parent: 1}, {Parent: -1}}}
	for i := range 4 {
		m.Guards = append(m.Guards, api.Guard{Stage: i, Event: -1})
		m.Miles = append(m.Miles, api.Mile{Stage: i, Event: -1})
	}
	return m
}

// waits are those for which x waits.
func waits(m api.Model, x api.Sentry) []api.Sentry {
	var l []api.Sentry
	for _, y := range strata.All(m) {
		if strata.Waits(m, x, y) {
			l = append(l, y)
		}
	}
	return l
}

func TestWaits(t *testing.T) {
	for i, x := range []struct {
		x    api.Sentry
		cond []api.Inst
		want []api.Sentry
	}{
		// by where it stands alone
		{guard(0), nil, nil}, {guard(1), nil, []api.Sentry{guard(0)}}, {guard(2), nil, []api.Sentry{guard(1)}}, {guard(3), nil, nil},
		{mile(0), nil, []api.Sentry{guard(0)}}, {mile(2), nil, []api.Sentry{guard(2)}},
		// by what it asks
		{guard(0), open(3), []api.Sentry{guard(3), mile(3)}}, {guard(3), open(2), []api.Sentry{guard(2), mile(0), mile(1), mile(2)}}, {mile(3), open(1), []api.Sentry{guard(1), guard(3), mile(0), mile(1)}}, {guard(0), open(0), []api.Sentry{guard(0), mile(0)}}, {mile(0), open(0), []api.Sentry{guard(0), mile(0)}},
		{guard(0), done(3), []api.Sentry{guard(3), mile(3)}}, {guard(3), done(2), []api.Sentry{guard(2), mile(2)}}, {mile(3), done(1), []api.Sentry{guard(1), guard(3), mile(1)}}, {mile(1), done(1), []api.Sentry{guard(1), mile(1)}}, {guard(2), done(0), []api.Sentry{guard(0), guard(1), mile(0)}},
		{guard(0), []api.Inst{{Op: api.OpTrue, N: 3}, {Op: api.OpCan, N: 3}, {Op: api.OpDid, N: 3}, {Op: api.OpLess, N: 3}}, nil},
		{guard(0), append(open(3), append(done(1), api.Inst{Op: api.OpAnd})...), []api.Sentry{guard(1), guard(3), mile(1), mile(3)}},
		{guard(0), open(4), nil}, {guard(0), open(-1), nil}, {guard(0), done(4), nil}, {guard(0), done(-1), nil}, {guard(0), done(math.MinInt), nil}, {guard(0), open(math.MaxInt), nil},
	} {
		m := nested()
		if x.x.Mile {
			m.Miles[x.x.N].If = x.cond
		} else {
			m.Guards[x.x.N].If = x.cond
		}
		if g := waits(m, x.x); !slices.Equal(g, x.want) {
			t.Error(i, x.x, g)
		}
	}
	m := nested()
	for _, x := range []api.Sentry{guard(4), guard(-1), mile(4), mile(-1), guard(math.MaxInt), mile(math.MinInt)} {
		for _, y := range append(strata.All(m), x) {
			if strata.Waits(m, x, y) || strata.Waits(m, y, x) {
				t.Error(x, y)
			}
		}
	}
}

func TestStagesThatThereAreNot(t *testing.T) {
	m := api.Model{
		Stages: []api.Stage{{Parent: -1}, {Parent: 99}, {Parent: 50}},
		Guards: []api.Guard{{Stage: 0}, {Stage: 1}, {Stage: -1}, {Stage: 99}, {Stage: 77, If: open(50)}, {Stage: 50}},
		Miles:  []api.Mile{{Stage: 99}, {Stage: 50, If: done(0)}, {Stage: 40, If: open(2)}},
	}
	for _, x := range []struct {
		x    api.Sentry
		want []api.Sentry
	}{
		{guard(0), []api.Sentry{guard(2)}}, {guard(1), []api.Sentry{guard(3)}}, {guard(2), nil}, {guard(3), nil}, {guard(4), []api.Sentry{guard(5), mile(1)}}, {guard(5), nil},
		{mile(0), []api.Sentry{guard(3)}}, {mile(1), []api.Sentry{guard(3), guard(5), mile(0)}}, {mile(2), nil},
	} {
		if g := waits(m, x.x); !slices.Equal(g, x.want) {
			t.Error(x.x, g)
		}
	}
}

func TestMoreMilestonesThanGuards(t *testing.T) {
	// of stage 0 the milestones 0 to 2; one that asks for the first one does not wait for the others of its stage
	m := api.Model{Stages: []api.Stage{{Parent: -1}}, Guards: []api.Guard{{Stage: 0}, {Stage: 1}}, Miles: []api.Mile{{Stage: 0}, {Stage: 0}, {Stage: 0, If: done(0)}, {Stage: 0, If: open(0)}}}
	for _, x := range []struct {
		x    api.Sentry
		want []api.Sentry
	}{
		{guard(0), nil}, {guard(1), nil}, {mile(0), []api.Sentry{guard(0)}}, {mile(2), []api.Sentry{guard(0), mile(0)}}, {mile(3), []api.Sentry{guard(0), mile(0), mile(1), mile(2), mile(3)}},
	} {
		if g := waits(m, x.x); !slices.Equal(g, x.want) {
			t.Error(x.x, g)
		}
	}
}

func TestOrder(t *testing.T) {
	m := nested()
	if l, e := strata.Order(m); e != api.OK || !slices.Equal(l, []api.Sentry{guard(0), guard(1), guard(2), guard(3), mile(0), mile(1), mile(2), mile(3)}) {
		t.Error(l, e)
	}
	m.Guards[0].If = done(3)
	if l, e := strata.Order(m); e != api.OK || !slices.Equal(l, []api.Sentry{guard(3), mile(3), guard(0), guard(1), guard(2), mile(0), mile(1), mile(2)}) {
		t.Error(l, e)
	}
	m.Miles[3].If = done(0)
	if l, e := strata.Order(m); len(l) != 0 || e != api.ErrStrata {
		t.Error(l, e)
	}
	m = nested()
	m.Guards[2].If = open(2)
	if l, e := strata.Order(m); len(l) != 0 || e != api.ErrStrata {
		t.Error("one that waits for itself", l, e)
	}
}

func TestNoneWaitsForOneBehind(t *testing.T) {
	rnd := rand.New(rand.NewSource(12))
	found := [2]int{}
	for range 3000 {
		var m api.Model
		for range 1 + rnd.Intn(4) {
			m.Stages = append(m.Stages, api.Stage{Parent: rnd.Intn(len(m.Stages)+1) - 1})
		}
		cond := func() []api.Inst {
			if rnd.Intn(2) == 0 {
				return nil
			}
			return []api.Inst{{Op: api.OpOpen + rnd.Intn(2), N: rnd.Intn(4)}}
		}
		for range rnd.Intn(5) {
			m.Guards = append(m.Guards, api.Guard{Stage: rnd.Intn(len(m.Stages)), If: cond()})
		}
		for range rnd.Intn(4) {
			m.Miles = append(m.Miles, api.Mile{Stage: rnd.Intn(len(m.Stages)), If: cond()})
		}
		l, e := strata.Order(m)
		left := strata.All(m)
		free := func(x api.Sentry) bool {
			return !slices.ContainsFunc(left, func(y api.Sentry) bool { return strata.Waits(m, x, y) })
		}
		if e != api.OK {
			found[0]++
			for {
				i := slices.IndexFunc(left, free)
				if i < 0 {
					break
				}
				left = slices.Delete(left, i, i+1)
			}
			if len(left) == 0 || len(l) != 0 || e != api.ErrStrata {
				t.Fatal(m, e)
			}
			continue
		}
		found[1]++
		if len(l) != len(left) {
			t.Fatal(m, l)
		}
		for _, x := range l {
			i := slices.IndexFunc(left, free)
			if left[i] != x {
				t.Fatal(m, l)
			}
			left = slices.Delete(left, i, i+1)
		}
	}
	if found[0] < 100 || found[1] < 100 {
		t.Error("too few of a kind", found)
	}
}
