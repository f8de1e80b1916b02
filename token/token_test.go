package token_test

import (
	"math"
	"math/rand"
	"strings"
	"testing"

	"warder/api"
	"warder/token"
)

const words = "attr user role stage in event by sets max on if guard milestone of final sod and or not implies open done can did complete stuck true false idle loop AX EX AF EF AG EG A E U"

func pos(line, col int) api.Pos { return api.Pos{Line: line, Col: col} }

func fault(e api.Errno, line, col int) api.Fault { return api.Fault{Err: e, At: pos(line, col)} }

func tok(kind int, text string, num int64, line, col int) api.Token {
	return api.Token{Kind: kind, Text: text, Num: num, At: pos(line, col)}
}

func check(t *testing.T, s string, want []api.Token) {
	t.Helper()
	l, f := token.Tokens(s)
	if f != (api.Fault{}) || len(l) != len(want) {
		t.Fatalf("%q: %v %v", s, l, f)
	}
	for i := range want {
		if l[i] != want[i] {
			t.Errorf("%q: token %d: %v, not %v", s, i, l[i], want[i])
		}
	}
}

func TestExample(t *testing.T) {
	check(t, "attr a=-5;", []api.Token{
		tok(api.TkWord, "attr", 0, 1, 1), tok(api.TkName, "a", 0, 1, 6), tok(api.TkSign, "=", 0, 1, 7),
		tok(api.TkNum, "-5", -5, 1, 8), tok(api.TkSign, ";", 0, 1, 10), tok(api.TkEnd, "", 0, 1, 11),
	})
}

func TestEnd(t *testing.T) {
	check(t, "", []api.Token{{Kind: api.TkEnd, At: pos(1, 1)}})
	check(t, " \t\r\n # x\n", []api.Token{{Kind: api.TkEnd, At: pos(3, 1)}})
	check(t, "# \u20ac", []api.Token{{Kind: api.TkEnd, At: pos(1, 4)}})
}

func TestRemarks(t *testing.T) {
	check(t, "a#b c ! \u20ac \r # d\nb", []api.Token{tok(api.TkName, "a", 0, 1, 1), tok(api.TkName, "b", 0, 2, 1), tok(api.TkEnd, "", 0, 2, 2)})
}

func TestNumbers(t *testing.T) {
	check(t, "5-3 007 -00 9223372036854775807 -9223372036854775808 0000000000000000000000001x", []api.Token{
		tok(api.TkNum, "5", 5, 1, 1), tok(api.TkNum, "-3", -3, 1, 2), tok(api.TkNum, "007", 7, 1, 5), tok(api.TkNum, "-00", 0, 1, 9),
		tok(api.TkNum, "9223372036854775807", math.MaxInt64, 1, 13), tok(api.TkNum, "-9223372036854775808", math.MinInt64, 1, 33),
		tok(api.TkNum, "0000000000000000000000001", 1, 1, 54), tok(api.TkName, "x", 0, 1, 79), tok(api.TkEnd, "", 0, 1, 80),
	})
}

func TestSigns(t *testing.T) {
	s := "<=>=!=<>=()[],;=<"
	var texts []string
	l, f := token.Tokens(s)
	if f.Err != api.OK {
		t.Fatal(f)
	}
	for _, x := range l {
		texts = append(texts, x.Text)
		if x.Text != "" && x.Kind != api.TkSign {
			t.Error(x)
		}
	}
	if g := strings.Join(texts, " "); g != "<= >= != < >= ( ) [ ] , ; = < " {
		t.Error(g)
	}
	check(t, "< =", []api.Token{tok(api.TkSign, "<", 0, 1, 1), tok(api.TkSign, "=", 0, 1, 3), tok(api.TkEnd, "", 0, 1, 4)})
}

func TestNames(t *testing.T) {
	check(t, "a_9z attrs abcdefghijklmnop x__", []api.Token{
		tok(api.TkName, "a_9z", 0, 1, 1), tok(api.TkName, "attrs", 0, 1, 6), tok(api.TkName, "abcdefghijklmnop", 0, 1, 12),
		tok(api.TkName, "x__", 0, 1, 29), tok(api.TkEnd, "", 0, 1, 32),
	})
}

func TestKnown(t *testing.T) {
	list := strings.Fields(words)
	if len(list) != 39 {
		t.Fatal(len(list))
	}
	for _, w := range list {
		if !token.Known(w) {
			t.Error(w)
		}
		l, f := token.Tokens(w)
		if f.Err != api.OK || len(l) != 2 || l[0] != (api.Token{Kind: api.TkWord, Text: w, At: pos(1, 1)}) {
			t.Error(w, l, f)
		}
	}
	for _, w := range []string{"", "a", "attrs", "Attr", "ax", "AU", "EU", "u", "AGG", " in", "in ", "x", "sentry", "0", "<"} {
		if token.Known(w) {
			t.Error(w)
		}
	}
}

func TestFaults(t *testing.T) {
	many := strings.Repeat(";", api.MaxTokens)
	for _, x := range []struct {
		s    string
		want api.Fault
	}{
		{"a !", fault(api.ErrChar, 1, 3)}, {"!", fault(api.ErrChar, 1, 1)}, {"a - 5", fault(api.ErrChar, 1, 3)}, {"--5", fault(api.ErrChar, 1, 1)}, {"a-", fault(api.ErrChar, 1, 2)},
		{"_a", fault(api.ErrChar, 1, 1)}, {"\u20ac", fault(api.ErrChar, 1, 1)}, {"a\n \xff", fault(api.ErrChar, 2, 2)}, {"a # b\xffc", fault(api.ErrChar, 1, 6)}, {"#\xff", fault(api.ErrChar, 1, 2)},
		{"a\u00a0b", fault(api.ErrChar, 1, 2)}, {"\v", fault(api.ErrChar, 1, 1)}, {"\ufffd", fault(api.ErrChar, 1, 1)}, {"# \ufffd\n{", fault(api.ErrChar, 2, 1)}, {"\x00", fault(api.ErrChar, 1, 1)},
		{"a Ab", fault(api.ErrChar, 1, 3)}, {"aB", fault(api.ErrChar, 1, 1)}, {"AG9", fault(api.ErrChar, 1, 1)}, {"AU", fault(api.ErrChar, 1, 1)}, {"a_X", fault(api.ErrChar, 1, 1)},
		{"abcdefghijklmnopQ", fault(api.ErrChar, 1, 1)}, {"a\nabcdefghijklmnopq", fault(api.ErrLong, 2, 1)}, {"abcdefghijklmnop_", fault(api.ErrLong, 1, 1)},
		{"1 9223372036854775808", fault(api.ErrNumber, 1, 3)}, {"-9223372036854775809", fault(api.ErrNumber, 1, 1)}, {"000100000000000000000000", fault(api.ErrNumber, 1, 1)},
		{"1 ! 9223372036854775808", fault(api.ErrChar, 1, 3)}, {"9223372036854775808 !", fault(api.ErrNumber, 1, 1)}, {"abcdefghijklmnopq!", fault(api.ErrLong, 1, 1)},
		{strings.Repeat(" ", api.MaxRunes+1), api.Fault{Err: api.ErrLong}}, {"!" + strings.Repeat(" ", api.MaxRunes), api.Fault{Err: api.ErrLong}},
		{many + ";", fault(api.ErrLong, 1, api.MaxTokens+1)}, {many + " \na !", fault(api.ErrLong, 2, 1)}, {many + "!", fault(api.ErrChar, 1, api.MaxTokens+1)}, {many + "9223372036854775808", fault(api.ErrNumber, 1, api.MaxTokens+1)},
		{many + "aB", fault(api.ErrChar, 1, api.MaxTokens+1)}, {many + " #\xff", fault(api.ErrChar, 1, api.MaxTokens+3)}, {many + "a\xff", fault(api.ErrLong, 1, api.MaxTokens+1)},
	} {
		if l, f := token.Tokens(x.s); len(l) != 0 || f != x.want {
			t.Errorf("%.40q: %d tokens, %v, not %v", x.s, len(l), f, x.want)
		}
	}
	if l, f := token.Tokens(many + " # ;\n"); len(l) != api.MaxTokens+1 || f != (api.Fault{}) || l[api.MaxTokens].Kind != api.TkEnd {
		t.Error("at the limit", len(l), f)
	}
	if l, f := token.Tokens(strings.Repeat(" ", api.MaxRunes)); len(l) != 1 || f != (api.Fault{}) {
		t.Error("as many runes as may be", len(l), f)
	}
}

func TestTokensAgain(t *testing.T) {
	rnd := rand.New(rand.NewSource(2))
	pieces := append(strings.Fields(words), "a", "b_1", "-7", "12", "<", ">", "=", "!=", "<=", ">=", "(", ")", "[", "]", ",", ";", " ", "\n", "# x\n", "\t", "0", "-0")
	read := 0
	for range 3000 {
		var b strings.Builder
		for range rnd.Intn(10) {
			b.WriteString(pieces[rnd.Intn(len(pieces))])
		}
		l, f := token.Tokens(b.String())
		if f.Err != api.OK {
			continue
		}
		read++
		var texts []string
		for i, x := range l {
			if i > 0 && (x.At.Line < l[i-1].At.Line || x.At.Line == l[i-1].At.Line && x.At.Col <= l[i-1].At.Col) {
				t.Fatalf("%q: places do not rise", b.String())
			}
			texts = append(texts, x.Text)
		}
		again, f := token.Tokens(strings.Join(texts, " "))
		if f.Err != api.OK || len(again) != len(l) {
			t.Fatalf("%q: %v %v", b.String(), again, f)
		}
		for i := range l {
			l[i].At, again[i].At = api.Pos{}, api.Pos{}
			if l[i] != again[i] {
				t.Fatalf("%q: %v, then %v", b.String(), l[i], again[i])
			}
		}
	}
	if read < 500 {
		t.Error("too few texts were read:", read)
	}
}
