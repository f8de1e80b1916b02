package bits_test

import (
	"math"
	"math/rand"
	"slices"
	"testing"

	"warder/bits"
)

const all = math.MaxInt32

var sets = []int{0, 1, 2, 5, 6, 0x55555555, all, all - 1, 1 << 30, -1, -2, math.MinInt, math.MaxInt, 1 << 31, 1<<31 + 5, 1 << 62, -1 << 31, -1<<31 + 3}

var numbers = []int{math.MinInt, -64, -33, -1, 0, 1, 2, 15, 29, 30, 31, 32, 33, 63, 64, 65, 1 << 32, math.MaxInt}

func TestExamples(t *testing.T) {
	if bits.Of(0, 2) != 5 || !slices.Equal(bits.List(5), []int{0, 2}) {
		t.Error("of, list")
	}
	if bits.Of() != 0 || bits.Of(-1, 31, 64, math.MinInt) != 0 || bits.Of(30) != 1<<30 || bits.Of(3, 3, 1) != 10 {
		t.Error("of")
	}
}

// in is whether i is in s, by arithmetic alone.
func in(s, i int) bool {
	if i < 0 || i > 30 {
		return false
	}
	for range i {
		if s%2 != 0 && s < 0 {
			s--
		}
		s /= 2
	}
	return s%2 != 0
}

func TestOneByOne(t *testing.T) {
	for _, s := range sets {
		var list []int
		for i := range 31 {
			if in(s, i) {
				list = append(list, i)
			}
		}
		low := bits.Of(list...)
		if low < 0 || low > all {
			t.Error(s, low)
		}
		if g := bits.List(s); !slices.Equal(g, list) {
			t.Error(s, g)
		}
		if g := bits.Count(s); g != len(list) {
			t.Error(s, g)
		}
		for _, i := range numbers {
			if g := bits.Has(s, i); g != slices.Contains(list, i) {
				t.Error("has", s, i, g)
			}
			with, without := low, low
			if i >= 0 && i < 31 {
				with, without = low|1<<i, low&^(1<<i)
			}
			if g := bits.With(s, i); g != with {
				t.Error("with", s, i, g)
			}
			if g := bits.Without(s, i); g != without {
				t.Error("without", s, i, g)
			}
		}
	}
}

func TestWithin(t *testing.T) {
	for _, a := range sets {
		for _, b := range sets {
			want := true
			for _, i := range bits.List(a) {
				want = want && bits.Has(b, i)
			}
			if bits.Within(a, b) != want {
				t.Error(a, b)
			}
		}
	}
	if !bits.Within(0, 0) || !bits.Within(1<<31, 0) || bits.Within(4, 3) || !bits.Within(-1, all) || bits.Within(-1, all-1) {
		t.Error("within")
	}
}

func TestFirst(t *testing.T) {
	for n, want := range map[int]int{math.MinInt: 0, -1: 0, 0: 0, 1: 1, 2: 3, 8: 255, 30: 1<<30 - 1, 31: all, 32: all, 64: all, math.MaxInt: all} {
		if g := bits.First(n); g != want {
			t.Error(n, g)
		}
	}
}

func TestASetIsThatOfItsList(t *testing.T) {
	rnd := rand.New(rand.NewSource(14))
	for range 2000 {
		s := rnd.Intn(all + 1)
		if bits.Of(bits.List(s)...) != s || len(bits.List(s)) != bits.Count(s) {
			t.Fatal(s)
		}
	}
}
