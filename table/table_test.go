package table_test

import (
	"hash/fnv"
	"math"
	"math/rand"
	"strconv"
	"testing"

	"warder/table"
)

func TestSum(t *testing.T) {
	if table.Sum("") != 2166136261 || table.Sum("a") != 3826002220 {
		t.Error(table.Sum(""), table.Sum("a"))
	}
	rnd := rand.New(rand.NewSource(29))
	for range 1000 {
		b := make([]byte, rnd.Intn(20))
		for i := range b {
			b[i] = byte(rnd.Intn(256))
		}
		h := fnv.New32a()
		h.Write(b)
		if g := table.Sum(string(b)); g != h.Sum32() {
			t.Errorf("%q: %d", b, g)
		}
	}
	if table.Sum("\xe2\x82\xac") == table.Sum("\xe2") {
		t.Error("bytes, not runes")
	}
}

func TestPutAndFind(t *testing.T) {
	for _, bits := range []int{math.MinInt, -1, 0, 1, 2, 8, 16, 17, 63, 64, math.MaxInt} {
		x := table.New(bits)
		if x == nil || x.Len() != 0 || x.Text(0) != "" {
			t.Fatal("empty", bits)
		}
		if n, ok := x.Find("a"); n != 0 || ok {
			t.Error(n, ok)
		}
		for i, s := range []string{"a", "", "b", "a\x00"} {
			if n, ok := x.Put(s); n != i || !ok {
				t.Error(bits, s, n, ok)
			}
		}
		for i, s := range []string{"a", "", "b", "a\x00"} {
			if n, ok := x.Put(s); n != i || ok {
				t.Error(bits, s, n, ok)
			}
			if n, ok := x.Find(s); n != i || !ok {
				t.Error(bits, s, n, ok)
			}
			if x.Text(i) != s {
				t.Error(bits, i)
			}
		}
		if n, ok := x.Find("c"); n != 0 || ok {
			t.Error(n, ok)
		}
		for _, n := range []int{-1, 4, math.MaxInt, math.MinInt} {
			if x.Text(n) != "" {
				t.Error(n)
			}
		}
		if x.Len() != 4 {
			t.Error(x.Len())
		}
	}
}

func TestNilAndSuchAsNoCallMade(t *testing.T) {
	for _, x := range []*table.Table{nil, {}, new(table.Table)} {
		for range 2 {
			if n, ok := x.Put("a"); n != 0 || ok {
				t.Error(n, ok)
			}
			if n, ok := x.Find("a"); n != 0 || ok {
				t.Error(n, ok)
			}
			if x.Text(0) != "" || x.Len() != 0 {
				t.Error("there are none")
			}
		}
	}
}

// Two texts of the very same sum, found by going through many.
func sameSum(t *testing.T) (string, string) {
	t.Helper()
	came := map[uint32]string{}
	for i := range 2000000 {
		s := strconv.Itoa(i * 7919)
		sum := table.Sum(s)
		if o, ok := came[sum]; ok {
			return o, s
		}
		came[sum] = s
	}
	t.Fatal("none found")
	return "", ""
}

func TestTextsOfOneSum(t *testing.T) {
	a, b := sameSum(t)
	for _, bits := range []int{0, 16} {
		x := table.New(bits)
		if n, ok := x.Put(a); n != 0 || !ok {
			t.Error(n, ok)
		}
		if n, ok := x.Find(b); n != 0 || ok {
			t.Error(n, ok)
		}
		if n, ok := x.Put(b); n != 1 || !ok {
			t.Error(n, ok)
		}
		if n, ok := x.Find(a); n != 0 || !ok || x.Text(1) != b {
			t.Error(n, ok)
		}
	}
}

func TestHoweverFewBits(t *testing.T) {
	rnd := rand.New(rand.NewSource(30))
	var tables []*table.Table
	for bits := range 18 {
		tables = append(tables, table.New(bits))
	}
	numbers := map[string]int{}
	for range 3000 {
		s := strconv.Itoa(rnd.Intn(1500))
		want, had := numbers[s]
		if !had {
			want = len(numbers)
			numbers[s] = want
		}
		for bits, x := range tables {
			if n, ok := x.Put(s); n != want || ok == had {
				t.Fatal(bits, s, n, ok)
			}
			if x.Len() != len(numbers) || x.Text(want) != s {
				t.Fatal(bits, s)
			}
		}
	}
}
