package tree_test

import (
	"math"
	"math/rand"
	"slices"
	"testing"

	"warder/api"
	"warder/tree"
)

func items(ops ...int) []api.Item {
	var l []api.Item
	for _, op := range ops {
		l = append(l, api.Item{Op: op})
	}
	return l
}

// chain is true, and n nots behind it.
func chain(n int) []api.Item {
	l := items(api.OpTrue)
	for range n {
		l = append(l, api.Item{Op: api.OpNot})
	}
	return l
}

func TestArity(t *testing.T) {
	want := map[int]int{
		api.OpTrue: 0, api.OpFalse: 0, api.OpLess: 0, api.OpAtMost: 0, api.OpMore: 0, api.OpAtLeast: 0, api.OpEqual: 0, api.OpOther: 0,
		api.OpOpen: 0, api.OpDone: 0, api.OpCan: 0, api.OpDid: 0, api.OpComplete: 0, api.OpStuck: 0,
		api.OpNot: 1, api.OpAX: 1, api.OpEX: 1, api.OpAF: 1, api.OpEF: 1, api.OpAG: 1, api.OpEG: 1,
		api.OpAnd: 2, api.OpOr: 2, api.OpImplies: 2, api.OpAU: 2, api.OpEU: 2,
	}
	for op := -3; op < 40; op++ {
		n, ok := want[op]
		if !ok {
			n = -1
		}
		if g := tree.Arity(op); g != n {
			t.Error(op, g, n)
		}
	}
	if tree.Arity(math.MaxInt) != -1 || tree.Arity(math.MinInt) != -1 {
		t.Error("far off")
	}
}

func TestCheckAndDeep(t *testing.T) {
	for _, x := range []struct {
		l    []api.Item
		want api.Errno
		deep int
	}{
		{nil, api.ErrNone, 0}, {[]api.Item{}, api.ErrNone, 0},
		{items(api.OpTrue), api.OK, 1}, {items(api.OpOpen, api.OpDone, api.OpAnd), api.OK, 2},
		{items(api.OpTrue, api.OpNot, api.OpFalse, api.OpEU), api.OK, 3}, {items(api.OpFalse, api.OpTrue, api.OpNot, api.OpAG, api.OpOr), api.OK, 4},
		{items(api.OpTrue, api.OpFalse), api.ErrForm, 0}, {items(api.OpNot), api.ErrForm, 0}, {items(api.OpTrue, api.OpAnd), api.ErrForm, 0}, {items(api.OpAnd, api.OpTrue, api.OpTrue), api.ErrForm, 0},
		{items(api.OpTrue, api.OpTrue, api.OpNot), api.ErrForm, 0}, {items(0), api.ErrForm, 0}, {items(27), api.ErrForm, 0}, {items(api.OpTrue, -1), api.ErrForm, 0}, {items(api.OpTrue, api.OpTrue, 99), api.ErrForm, 0},
		{chain(api.MaxItems - 1), api.OK, api.MaxItems}, {chain(api.MaxItems), api.ErrLong, 0}, {slices.Repeat(items(-5), api.MaxItems+1), api.ErrLong, 0}, {slices.Repeat(items(-5), api.MaxItems), api.ErrForm, 0},
	} {
		if e := tree.Check(x.l); e != x.want {
			t.Error(x.l, e, x.want)
		}
		if n := tree.Deep(x.l); n != x.deep {
			t.Error(x.l, n, x.deep)
		}
	}
}

func TestParts(t *testing.T) {
	// 0 true, 1 false, 2 and, 3 not, 4 open, 5 AG, 6 EU
	l := items(api.OpTrue, api.OpFalse, api.OpAnd, api.OpNot, api.OpOpen, api.OpAG, api.OpEU)
	starts := []int{0, 1, 0, 0, 4, 4, 0}
	kids := [][]int{nil, nil, {0, 1}, {2}, nil, {4}, {3, 5}}
	for i := range l {
		if g := tree.Start(l, i); g != starts[i] {
			t.Error("start", i, g)
		}
		if g := tree.Kids(l, i); !slices.Equal(g, kids[i]) || len(kids[i]) == 0 && g != nil {
			t.Error("kids", i, g)
		}
	}
	for _, i := range []int{-1, 7, math.MinInt, math.MaxInt} {
		if tree.Start(l, i) != -1 || len(tree.Kids(l, i)) != 0 {
			t.Error(i)
		}
	}
	for _, bad := range [][]api.Item{nil, items(api.OpTrue, api.OpTrue), items(api.OpNot), chain(api.MaxItems)} {
		for i := -1; i < 3; i++ {
			if tree.Start(bad, i) != -1 || len(tree.Kids(bad, i)) != 0 {
				t.Error(bad, i)
			}
		}
	}
	if k := tree.Kids(items(api.OpOpen, api.OpDone, api.OpAnd), 2); !slices.Equal(k, []int{0, 1}) {
		t.Error(k)
	}
}

func TestPut(t *testing.T) {
	a := append(items(api.OpOpen), api.Item{Op: 77})[:1]
	a[0].Name = "s"
	a[0].At = api.Pos{Line: 3, Col: 4}
	b := items(api.OpTrue, api.OpNot)
	got := tree.Put(api.OpAnd, a, b)
	want := []api.Item{a[0], b[0], b[1], {Op: api.OpAnd}}
	if !slices.Equal(got, want) {
		t.Error(got)
	}
	got[0].Name = "x"
	if a[0].Name != "s" || a[:2][1].Op != 77 {
		t.Error("what is handed in is changed")
	}
	if g := tree.Put(api.OpNot, a); !slices.Equal(g, []api.Item{a[0], {Op: api.OpNot}}) || a[:2][1].Op != 77 {
		t.Error(g)
	}
	if g := tree.Put(api.OpTrue); !slices.Equal(g, items(api.OpTrue)) {
		t.Error(g)
	}
	for i, g := range [][]api.Item{
		tree.Put(api.OpAnd), tree.Put(api.OpAnd, a), tree.Put(api.OpAnd, a, b, a), tree.Put(api.OpNot), tree.Put(api.OpNot, a, b), tree.Put(api.OpTrue, a),
		tree.Put(0), tree.Put(-1), tree.Put(27, a), tree.Put(api.OpNot, nil), tree.Put(api.OpAnd, a, nil), tree.Put(api.OpOr, nil, a), tree.Put(api.OpNot, items(api.OpTrue, api.OpTrue)), tree.Put(api.OpNot, chain(api.MaxItems-1)),
		tree.Put(api.OpAnd, chain(31), chain(31)), tree.Put(api.OpAnd, items(api.OpTrue, api.OpTrue), items(api.OpNot)),
	} {
		if g != nil {
			t.Error(i, g)
		}
	}
	if g := tree.Put(api.OpNot, chain(api.MaxItems-2)); len(g) != api.MaxItems {
		t.Error(len(g))
	}
	if g := tree.Put(api.OpAnd, chain(31), chain(30)); len(g) != api.MaxItems {
		t.Error(len(g))
	}
}

func TestSameAndUses(t *testing.T) {
	x := api.Item{Op: api.OpDid, Name: "e", User: "u", L: api.Word{Name: "a", Num: 1}, R: api.Word{Name: "b", Num: 2}, At: api.Pos{Line: 1, Col: 2}}
	other := []api.Item{x, x, x, x, x, x, x}
	other[0].Op++
	other[1].Name = "f"
	other[2].User = "v"
	other[3].L.Name = "c"
	other[4].L.Num = 9
	other[5].R.Name = "c"
	other[6].R.Num = 9
	for i, y := range other {
		if tree.Same([]api.Item{x}, []api.Item{y}) || tree.Same([]api.Item{x, y}, []api.Item{x, x}) {
			t.Error(i)
		}
	}
	y := x
	y.At = api.Pos{Line: 9, Col: 9}
	if !tree.Same([]api.Item{x, x}, []api.Item{y, x}) || !tree.Same(nil, []api.Item{}) || tree.Same([]api.Item{x}, nil) || tree.Same(nil, []api.Item{x}) || tree.Same([]api.Item{x, x}, []api.Item{x}) {
		t.Error("same")
	}
	l := items(api.OpNot, 99, api.OpNot, api.OpTrue)
	if tree.Uses(l, api.OpNot) != 2 || tree.Uses(l, 99) != 1 || tree.Uses(l, api.OpAnd) != 0 || tree.Uses(nil, 0) != 0 {
		t.Error("uses")
	}
}

// any formula of at most n items
func formula(rnd *rand.Rand, n int) []api.Item {
	if n < 2 || rnd.Intn(5) == 0 {
		return items(1 + rnd.Intn(14))
	}
	if n == 2 || rnd.Intn(3) == 0 {
		return tree.Put([]int{api.OpNot, api.OpAX, api.OpEG, api.OpEF}[rnd.Intn(4)], formula(rnd, n-1))
	}
	k := 1 + rnd.Intn(n-2)
	return tree.Put([]int{api.OpAnd, api.OpOr, api.OpImplies, api.OpAU, api.OpEU}[rnd.Intn(5)], formula(rnd, k), formula(rnd, n-1-k))
}

func TestPartsLieWithin(t *testing.T) {
	rnd := rand.New(rand.NewSource(5))
	for range 500 {
		l := formula(rnd, 1+rnd.Intn(api.MaxItems))
		if tree.Check(l) != api.OK {
			t.Fatal(l)
		}
		for i := range l {
			from := tree.Start(l, i)
			part := l[from : i+1]
			if tree.Check(part) != api.OK {
				t.Fatal(l, i)
			}
			var kids [][]api.Item
			deepest, at := 0, from
			for _, k := range tree.Kids(l, i) {
				if tree.Start(l, k) != at {
					t.Fatal(l, i, k)
				}
				at = k + 1
				kids = append(kids, l[tree.Start(l, k):k+1])
				deepest = max(deepest, tree.Deep(l[tree.Start(l, k):k+1]))
			}
			if at != i || tree.Deep(part) != deepest+1 {
				t.Fatal(l, i)
			}
			if !tree.Same(tree.Put(l[i].Op, kids...), part) {
				t.Fatal(l, i)
			}
			for k := range i {
				if a := tree.Start(l, k); a < from && k >= from {
					t.Fatal("parts cross", l, i, k)
				}
			}
		}
	}
}
