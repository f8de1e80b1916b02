package bound_test

import (
	"math"
	"math/big"
	"math/rand"
	"testing"

	"warder/api"
	"warder/bound"
	"warder/graph"
	"warder/model"
)

const most = 1 << 62

func TestTimes(t *testing.T) {
	l := []int{math.MinInt, -5, -1, 0, 1, 2, 3, 7, 1 << 30, 1 << 31, 1<<31 + 1, 1<<32 - 1, 1 << 61, most - 1, most, most + 1, math.MaxInt}
	for _, a := range l {
		for _, b := range l {
			want := 0
			if a >= 1 && b >= 1 {
				p := new(big.Int).Mul(big.NewInt(int64(a)), big.NewInt(int64(b)))
				want = most
				if p.Cmp(big.NewInt(most)) < 0 {
					want = int(p.Int64())
				}
			}
			if g := bound.Times(a, b); g != want {
				t.Error(a, b, g, want)
			}
		}
	}
}

func TestPower(t *testing.T) {
	for _, x := range [][3]int{
		{2, 0, 1}, {2, -1, 1}, {2, math.MinInt, 1}, {0, 0, 1}, {-5, 0, 1}, {2, 1, 2}, {2, 10, 1024}, {3, 4, 81}, {2, 61, 1 << 61}, {2, 62, most}, {2, 63, most}, {2, math.MaxInt, most}, {3, 39, 4052555153018976267}, {3, 40, most}, {1, math.MaxInt, 1}, {1, 1, 1}, {0, 1, 0}, {0, 7, 0}, {0, math.MaxInt, 0}, {-2, 2, 0}, {-2, math.MaxInt, 0}, {most, 1, most}, {math.MaxInt, 1, most}, {math.MaxInt, 5, most}, {1 << 31, 2, most}, {1 << 30, 2, 1 << 60},
	} {
		if g := bound.Power(x[0], x[1]); g != x[2] {
			t.Error(x, g)
		}
	}
}

func TestNodes(t *testing.T) {
	if bound.Nodes(api.Model{}, 0) != 1 || bound.Nodes(api.Model{}, -7) != 1 || bound.Nodes(api.Model{}, 100) != 1 || bound.Nodes(api.Model{}, 101) != most {
		t.Error("of nothing")
	}
	for i, x := range []struct {
		m      api.Model
		consts int
		want   int
	}{
		{api.Model{Stages: make([]api.Stage, 3)}, 0, 8}, {api.Model{Miles: make([]api.Mile, 4)}, 0, 16}, {api.Model{Stages: make([]api.Stage, 3), Miles: make([]api.Mile, 4)}, 0, 128}, {api.Model{Events: make([]api.Event, 3)}, 0, 1}, {api.Model{Events: make([]api.Event, 3), Users: make([]string, 2)}, 0, 64},
		{api.Model{Events: []api.Event{{Times: 2}, {Times: 0}, {Times: 3}, {Times: -9}}}, 0, 12}, {api.Model{Events: []api.Event{{Times: math.MaxInt}}}, 0, most}, {api.Model{Events: []api.Event{{Times: math.MaxInt}, {Times: math.MaxInt}}, Stages: make([]api.Stage, 1)}, 0, most},
		{api.Model{Attrs: make([]string, 1)}, 0, 1}, {api.Model{Attrs: make([]string, 1)}, 3, 7}, {api.Model{Attrs: make([]string, 3)}, 2, 5 * 7 * 9}, {api.Model{Attrs: make([]string, 3)}, -1, 1 * 3 * 5}, {api.Model{Attrs: make([]string, 101)}, 0, most}, {api.Model{Attrs: make([]string, 100)}, 100, most},
		// two writes: 4 by itself, as often as there are attributes and constants; the counts 0, 1, 2; 3 and 5
		{api.Model{Attrs: make([]string, 2), Events: []api.Event{{Sets: []int{0}, Times: 2}}}, 1, 3 * 3 * 5 * 64}, {api.Model{Events: []api.Event{{Sets: []int{0}, Times: 2}}}, 0, 3}, {api.Model{Events: []api.Event{{Sets: []int{0}, Times: 2}}}, 3, 3 * 64},
		{api.Model{Attrs: make([]string, 1), Users: make([]string, 1), Stages: make([]api.Stage, 1), Miles: make([]api.Mile, 1), Events: []api.Event{{Sets: []int{0}, Times: 1}, {}}}, 1, 2 * 2 * 4 * 2 * 3 * 4},
		{api.Model{Stages: make([]api.Stage, 40), Miles: make([]api.Mile, 40)}, 0, most},
	} {
		if g := bound.Nodes(x.m, x.consts); g != x.want {
			t.Error(i, g, x.want)
		}
	}
}

func TestNoGraphHasMore(t *testing.T) {
	rnd := rand.New(rand.NewSource(43))
	for _, text := range []string{
		"", "stage s;", "attr a = 9; attr b = 9;", "attr a = 1; user u; user v; role r = u v; stage s; stage t in s; event e by r in s sets a max 1; event g by r in t; guard s; guard t on e if a > 5; milestone k of t on g; milestone l of s if done k final; sod e, g;",
		"attr a = 1; attr b = 3; user u; role r = u; stage s; stage t; event e by r in s sets a max 2; event f by r in t sets b max 1; guard s; guard t if a < b; milestone k of s if a = 4 and b != a; milestone l of t on f if b <= 2;",
		"attr a = 0; user u; role r = u; stage s; guard s; event e by r in s sets a max 3;",
		"user u; user v; user w; role r = u v; role q = w v; stage s; stage t; guard s; guard t on e; event e by r in s; event f by q in t max 2; milestone k of s on f; milestone l of t if done k; guard s on f; sod e, f;",
	} {
		m, f, _ := model.Read(text)
		if f.Err != api.OK {
			t.Fatal(f)
		}
		for range 3 {
			consts := model.Consts(m, nil)
			for range rnd.Intn(3) {
				consts = append(consts, int64(20+len(consts)))
			}
			g, e := graph.Explore(m, consts, bound.Nodes(m, len(consts)))
			if e != api.OK || len(g.Nodes) > bound.Nodes(m, len(consts)) {
				t.Error(text, len(g.Nodes), e)
			}
		}
	}
}
