package num_test

import (
	"math"
	"math/big"
	"math/rand"
	"slices"
	"strings"
	"testing"

	"warder/api"
	"warder/num"
)

var edges = []int64{math.MinInt64, math.MinInt64 + 1, math.MinInt64 / 2, -100, -2, -1, 0, 1, 2, 9, 100, math.MaxInt64 / 2, math.MaxInt64 - 1, math.MaxInt64}

func TestRead(t *testing.T) {
	for _, x := range []struct {
		s string
		n int64
		e api.Errno
	}{
		{"0", 0, api.OK}, {"-0", 0, api.OK}, {"007", 7, api.OK}, {"-007", -7, api.OK}, {"12345", 12345, api.OK},
		{"9223372036854775807", math.MaxInt64, api.OK}, {"-9223372036854775808", math.MinInt64, api.OK}, {strings.Repeat("0", 50) + "5", 5, api.OK},
		{"9223372036854775808", 0, api.ErrNumber}, {"-9223372036854775809", 0, api.ErrNumber}, {strings.Repeat("9", 40), 0, api.ErrNumber},
		{"", 0, api.ErrForm}, {"-", 0, api.ErrForm}, {"+5", 0, api.ErrForm}, {"--5", 0, api.ErrForm}, {" 5", 0, api.ErrForm}, {"5 ", 0, api.ErrForm}, {"5-", 0, api.ErrForm},
		{"1_0", 0, api.ErrForm}, {"0x1", 0, api.ErrForm}, {"1e3", 0, api.ErrForm}, {"a", 0, api.ErrForm}, {"\xff", 0, api.ErrForm}, {"\u0661", 0, api.ErrForm}, {"99999999999999999999x", 0, api.ErrForm}, {"5/", 0, api.ErrForm}, {"5:", 0, api.ErrForm},
	} {
		if n, e := num.Read(x.s); n != x.n || e != x.e {
			t.Errorf("%q: %d %v, not %d %v", x.s, n, e, x.n, x.e)
		}
	}
}

func TestPrint(t *testing.T) {
	for n, want := range map[int64]string{0: "0", 7: "7", -7: "-7", 100: "100", math.MaxInt64: "9223372036854775807", math.MinInt64: "-9223372036854775808"} {
		if s := num.Print(n); s != want {
			t.Error(n, s)
		}
	}
	if len(num.Print(math.MinInt64)) != 20 {
		t.Error("the least number's text")
	}
}

func TestPrintedIsRead(t *testing.T) {
	rnd := rand.New(rand.NewSource(3))
	l := slices.Clone(edges)
	for range 1000 {
		l = append(l, int64(rnd.Uint64())>>rnd.Intn(64))
	}
	for _, n := range l {
		if g, e := num.Read(num.Print(n)); g != n || e != api.OK {
			t.Error(n, g, e)
		}
	}
}

func TestAddAndGap(t *testing.T) {
	rnd := rand.New(rand.NewSource(4))
	l := slices.Clone(edges)
	for range 60 {
		l = append(l, int64(rnd.Uint64())>>rnd.Intn(64))
	}
	for _, a := range l {
		for _, b := range l {
			sum := new(big.Int).Add(big.NewInt(a), big.NewInt(b))
			n, ok := num.Add(a, b)
			if ok != sum.IsInt64() || ok && n != sum.Int64() || !ok && n != 0 {
				t.Error("add", a, b, n, ok)
			}
			between := new(big.Int).Sub(big.NewInt(b), big.NewInt(a))
			between.Sub(between, big.NewInt(1))
			for _, most := range []int{math.MinInt, -1, 0, 1, 7, 15, 100, math.MaxInt - 1, math.MaxInt} {
				want := int64(max(most, 0))
				if between.Sign() <= 0 {
					want = 0
				} else if between.IsInt64() {
					want = min(want, between.Int64())
				}
				if g := num.Gap(a, b, most); int64(g) != want {
					t.Error("gap", a, b, most, g, want)
				}
			}
		}
	}
	if num.Gap(2, 9, 100) != 6 || num.Gap(9, 2, 100) != 0 || num.Gap(2, 9, 5) != 5 || num.Gap(2, 9, 6) != 6 || num.Gap(4, 4, 9) != 0 || num.Gap(4, 5, 9) != 0 {
		t.Error("gap")
	}
}

func TestSorted(t *testing.T) {
	behind := []int64{3, 1, 3, 77, 78}
	in := behind[:3]
	out := num.Sorted(in)
	if !slices.Equal(out, []int64{1, 3}) || !slices.Equal(behind, []int64{3, 1, 3, 77, 78}) {
		t.Error(out, behind)
	}
	rising := []int64{1, 2}
	out = num.Sorted(rising)
	out[0] = 9
	if rising[0] != 1 {
		t.Error("what is handed out shares memory")
	}
	for _, l := range [][]int64{nil, {}} {
		if len(num.Sorted(l)) != 0 {
			t.Error("of nothing")
		}
	}
	if g := num.Sorted([]int64{math.MaxInt64, 0, math.MinInt64, 0, -1}); !slices.Equal(g, []int64{math.MinInt64, -1, 0, math.MaxInt64}) {
		t.Error(g)
	}
}

func TestFind(t *testing.T) {
	l := []int64{math.MinInt64, -3, 0, 4, 5, 9, math.MaxInt64}
	for _, n := range append(slices.Clone(edges), -3, 4, 5, 3, 6) {
		want := 0
		for _, x := range l {
			if x < n {
				want++
			}
		}
		if i, ok := num.Find(l, n); i != want || ok != slices.Contains(l, n) {
			t.Error(n, i, ok)
		}
	}
	if i, ok := num.Find(nil, 5); i != 0 || ok {
		t.Error(i, ok)
	}
	for _, l := range [][]int64{{5, 1, 3}, {3, 3, 3}, {9, 8, 7, 6}, {1, 9, 2, 8}} {
		for n := int64(0); n < 11; n++ {
			if i, _ := num.Find(l, n); i < 0 || i > len(l) {
				t.Error(l, n, i)
			}
		}
	}
}
