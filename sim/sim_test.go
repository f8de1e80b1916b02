package sim_test

import (
	"math"
	"math/big"
	"reflect"
	"slices"
	"testing"

	"warder/api"
	"warder/model"
	"warder/run"
	"warder/sim"
	"warder/step"
)

var models = []string{
	"attr a = 1; user u; user v; role r = u v; stage s; stage t in s; event e by r in s sets a max 1; event g by r in t; event h by r in s; guard s; guard t on e if a > 5; milestone k of t on g; milestone l of s if done k final; sod e, g;",
	"attr a = 1; attr b = 3; user u; role r = u; stage s; stage t; event e by r in s sets a, b max 1; event f by r in t sets b max 2; guard s; guard t if a < b; milestone k of s if a = 4 and b != a; milestone l of t on f if b <= 2;",
	"user u; user v; user w; role r = u v; role q = w v; stage s; stage t; guard s; guard t on e; event e by r in s; event f by q in t max 2; milestone k of s on f; milestone l of t if done k; guard s on f; sod e, f;",
	"attr a = 9223372036854775807; user u; role r = u; stage s; guard s; event e by r in s sets a max 3;", "attr a = -9223372036854775808; user u; role r = u; stage s; guard s; event e by r in s sets a max 3;", "",
}

func read(t *testing.T, s string) api.Model {
	t.Helper()
	m, f, _ := model.Read(s)
	if f.Err != api.OK {
		t.Fatal(s, f)
	}
	return m
}

func TestChance(t *testing.T) {
	if sim.Next(0) != 1442695040888963407 {
		t.Error(sim.Next(0))
	}
	two64 := new(big.Int).Lsh(big.NewInt(1), 64)
	for _, c := range []uint64{0, 1, 2, 7, math.MaxUint64, 1 << 63, 1442695040888963407, 12345678901234567890} {
		want := new(big.Int).SetUint64(c)
		want.Mul(want, big.NewInt(6364136223846793005)).Add(want, big.NewInt(1442695040888963407)).Mod(want, two64)
		if sim.Next(c) != want.Uint64() {
			t.Error(c)
		}
		for _, n := range []int{1, 2, 3, 7, 1 << 30, 1 << 31, 1 << 40, math.MaxInt} {
			if g := sim.Pick(c, n); g != int(c/(1<<33)%uint64(n)) {
				t.Error(c, n, g)
			}
		}
		for _, n := range []int{0, -1, math.MinInt} {
			if sim.Pick(c, n) != 0 {
				t.Error(c, n)
			}
		}
	}
}

// slow is a run by chance, as the words say.
func slow(m api.Model, chance uint64, steps int) ([]api.Move, uint64) {
	pick := func(n int) int {
		chance = sim.Next(chance)
		return sim.Pick(chance, n)
	}
	var l []api.Move
	s := step.Begin(m)
	for range steps {
		moves := step.Moves(m, s)
		v := moves[pick(len(moves))]
		nums := append(slices.Clone(s.Vals), model.Consts(m, nil)...)
		slices.Sort(nums)
		nums = slices.Compact(nums)
		for i := range v.Vals {
			n := nums[pick(len(nums))]
			switch pick(3) {
			case 0:
				if n != math.MinInt64 {
					n--
				}
			case 2:
				if n != math.MaxInt64 {
					n++
				}
			}
			v.Vals[i] = n
		}
		l = append(l, v)
		s, _ = step.Do(m, s, v)
	}
	return l, chance
}

func TestRun(t *testing.T) {
	for _, text := range models {
		m := read(t, text)
		for seed := range uint64(60) {
			seed *= 0x9e3779b97f4a7c15
			l, last := sim.Run(m, seed, 25)
			want, chance := slow(m, seed, 25)
			if !reflect.DeepEqual(bare(l), bare(want)) || last != chance {
				t.Fatal(text, seed, l, want)
			}
			if all, e := run.All(m, l); e != api.OK || len(all) != 26 {
				t.Fatal(text, seed, e)
			}
			// two runs of one seed begin alike
			short, _ := sim.Run(m, seed, 7)
			if !reflect.DeepEqual(bare(short), bare(l[:7])) {
				t.Fatal(text, seed)
			}
		}
	}
}

// bare are moves, with nil for no numbers.
func bare(l []api.Move) []api.Move {
	l = slices.Clone(l)
	for i := range l {
		if len(l[i].Vals) == 0 {
			l[i].Vals = nil
		}
	}
	return l
}

func TestSteps(t *testing.T) {
	m := read(t, models[2])
	for steps, want := range map[int]int{math.MinInt: 0, -1: 0, 0: 0, 1: 1, 999: 999, 1000: 1000, 1001: 1000, math.MaxInt: 1000} {
		l, last := sim.Run(m, 5, steps)
		if len(l) != want {
			t.Error(steps, len(l))
		}
		chance := uint64(5)
		for range want {
			chance = sim.Next(chance)
		}
		if last != chance {
			t.Error(steps, last)
		}
	}
	m.Order = nil
	if l, last := sim.Run(m, 77, 5); len(l) != 0 || last != 77 {
		t.Error(l, last)
	}
}

func TestManyThingsCome(t *testing.T) {
	m := read(t, models[0])
	events, vals := map[int]int{}, map[int64]int{}
	for seed := range uint64(300) {
		l, _ := sim.Run(m, seed*0x9e3779b97f4a7c15, 12)
		for _, v := range l {
			events[v.Event]++
			for _, n := range v.Vals {
				vals[n]++
			}
		}
	}
	if len(events) != 4 || len(vals) != 6 { // 0, 1, 2, and 4, 5, 6
		t.Error(events, vals)
	}
}
