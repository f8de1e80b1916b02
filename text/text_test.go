package text_test

import (
	"math"
	"math/rand"
	"strings"
	"testing"
	"unicode/utf8"

	"warder/api"
	"warder/text"
)

func pos(line, col int) api.Pos { return api.Pos{Line: line, Col: col} }

func TestRunesExample(t *testing.T) {
	l, e := text.Runes("a\n\xff")
	want := []text.Rune{{'a', 0, 1, pos(1, 1)}, {'\n', 1, 2, pos(1, 2)}, {text.Bad, 2, 3, pos(2, 1)}}
	if e != api.OK || len(l) != 3 {
		t.Fatal(l, e)
	}
	for i, x := range want {
		if l[i] != x {
			t.Error(i, l[i], x)
		}
	}
}

func TestBad(t *testing.T) {
	if text.Bad != -1 {
		t.Error(text.Bad)
	}
}

func TestRunesOfManyBytes(t *testing.T) {
	// two, three and four bytes; the replacement rune itself; a surrogate's bytes; a rune that is cut off
	l, e := text.Runes("\u00e9\u20ac\U0001f600\ufffd\xed\xa0\x80\xe2\x82")
	want := []struct {
		r        rune
		from, to int
	}{{0xe9, 0, 2}, {0x20ac, 2, 5}, {0x1f600, 5, 9}, {0xfffd, 9, 12}, {text.Bad, 12, 13}, {text.Bad, 13, 14}, {text.Bad, 14, 15}, {text.Bad, 15, 16}, {text.Bad, 16, 17}}
	if e != api.OK || len(l) != len(want) {
		t.Fatal(l, e)
	}
	for i, x := range want {
		if l[i].R != x.r || l[i].From != x.from || l[i].To != x.to || l[i].At != pos(1, i+1) {
			t.Error(i, l[i], x)
		}
	}
}

func TestRunesLimit(t *testing.T) {
	if l, e := text.Runes(""); len(l) != 0 || e != api.OK {
		t.Error(l, e)
	}
	for _, piece := range []string{"x", "\u20ac", "\xff", "\n"} {
		if l, e := text.Runes(strings.Repeat(piece, api.MaxRunes)); len(l) != api.MaxRunes || e != api.OK {
			t.Errorf("%q: at the limit: %d, %v", piece, len(l), e)
		}
		if l, e := text.Runes(strings.Repeat(piece, api.MaxRunes+1)); len(l) != 0 || e != api.ErrLong {
			t.Errorf("%q: past the limit: %d, %v", piece, len(l), e)
		}
	}
}

func TestAt(t *testing.T) {
	s := "a\u20ac\n\xffb\n"
	for _, x := range []struct {
		off  int
		want api.Pos
	}{
		{math.MinInt, pos(1, 1)}, {-1, pos(1, 1)}, {0, pos(1, 1)}, {1, pos(1, 2)}, {2, pos(1, 3)}, {3, pos(1, 3)}, {4, pos(1, 3)},
		{5, pos(2, 1)}, {6, pos(2, 2)}, {7, pos(2, 3)}, {8, pos(3, 1)}, {9, pos(3, 1)}, {math.MaxInt, pos(3, 1)},
	} {
		if p := text.At(s, x.off); p != x.want {
			t.Error(x.off, p, x.want)
		}
	}
	if p := text.At("", 0); p != pos(1, 1) {
		t.Error(p)
	}
	if p := text.At("", 5); p != pos(1, 1) {
		t.Error(p)
	}
	long := strings.Repeat("x", api.MaxRunes+5)
	if p := text.At(long, api.MaxRunes+3); p != pos(1, api.MaxRunes+4) {
		t.Error("a place beyond MaxRunes", p)
	}
}

func TestLine(t *testing.T) {
	for _, x := range []struct {
		s    string
		n    int
		want string
	}{
		{"a\nbc\n\nd", 1, "a"}, {"a\nbc\n\nd", 2, "bc"}, {"a\nbc\n\nd", 3, ""}, {"a\nbc\n\nd", 4, "d"}, {"a\nbc\n\nd", 5, ""},
		{"a\nb", 0, ""}, {"a\nb", -1, ""}, {"a\nb", math.MinInt, ""}, {"a\nb", math.MaxInt, ""}, {"a\r\nb", 1, "a\r"},
		{"", 1, ""}, {"\xff\n\xfe", 2, "\xfe"}, {"a\nb\n", 3, ""},
	} {
		if g := text.Line(x.s, x.n); g != x.want {
			t.Errorf("%q %d: %q, not %q", x.s, x.n, g, x.want)
		}
	}
}

func TestKinds(t *testing.T) {
	for r := rune(-3); r < 0x300; r++ {
		in := func(s string) bool { return r >= 0 && strings.ContainsRune(s, r) }
		if text.Small(r) != in("abcdefghijklmnopqrstuvwxyz") {
			t.Error("small", r)
		}
		if text.Great(r) != in("ABCDEFGHIJKLMNOPQRSTUVWXYZ") {
			t.Error("great", r)
		}
		if text.Digit(r) != in("0123456789") {
			t.Error("digit", r)
		}
		if text.Blank(r) != in(" \t\n\r") {
			t.Error("blank", r)
		}
	}
	for _, r := range []rune{0x0660, 0xff11, 0x2003, 0x0430, math.MaxInt32, math.MinInt32} {
		if text.Small(r) || text.Great(r) || text.Digit(r) || text.Blank(r) {
			t.Error(r)
		}
	}
}

func less(a, b api.Pos) bool { return a.Line < b.Line || a.Line == b.Line && a.Col < b.Col }

func TestRunesFollow(t *testing.T) {
	rnd := rand.New(rand.NewSource(1))
	pieces := []string{"a", "Z", "\n", "\xff", "\u20ac", "\xe2\x82", "\ufffd", " ", "\xf0\x9f\x98\x80", "\x80"}
	for range 2000 {
		var b strings.Builder
		for range rnd.Intn(12) {
			b.WriteString(pieces[rnd.Intn(len(pieces))])
		}
		s := b.String()
		l, e := text.Runes(s)
		if e != api.OK || len(l) != utf8.RuneCountInString(s) {
			t.Fatalf("%q: %v %v", s, l, e)
		}
		to, line, col := 0, 1, 1
		for i, x := range l {
			if x.From != to || x.To <= x.From {
				t.Fatalf("%q: rune %d from %d to %d", s, i, x.From, x.To)
			}
			to = x.To
			if x.At != pos(line, col) || text.At(s, x.From) != x.At {
				t.Fatalf("%q: rune %d at %v, and %v", s, i, x.At, text.At(s, x.From))
			}
			if i > 0 && !less(l[i-1].At, x.At) {
				t.Fatalf("%q: places do not rise", s)
			}
			if x.R != text.Bad && string(x.R) != s[x.From:x.To] {
				t.Fatalf("%q: rune %d is %q", s, i, x.R)
			}
			if x.R == text.Bad && (x.To-x.From != 1 || utf8.ValidString(s)) {
				t.Fatalf("%q: rune %d is bad", s, i)
			}
			if col++; x.R == '\n' {
				line, col = line+1, 1
			}
		}
		if to != len(s) || text.At(s, len(s)) != pos(line, col) {
			t.Fatalf("%q: ends at %d", s, to)
		}
		for i, want := range strings.Split(s, "\n") {
			if text.Line(s, i+1) != want {
				t.Fatalf("%q: line %d", s, i+1)
			}
		}
	}
}
