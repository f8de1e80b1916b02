// Package whole tests the promises of the whole, P1 to P8, through the faces of the layers.
package whole

import (
	"math/rand"
	"strconv"
	"strings"
	"testing"

	"warder/api"
	"warder/model"
)

const example = `attr a = 1; user u; user v; role r = u v; stage s; stage t in s; event e by r in s sets a max 1; event g by r in t; guard s; guard t on e if a > 5; milestone k of t on g; milestone l of s if done k final; sod e, g;`

// maker makes texts by chance; its numbers may be moved by one number, or turned round 0, which takes no other chances.
type maker struct {
	*rand.Rand
	moved  int64
	turned bool
}

func (k *maker) of(l ...string) string { return l[k.Intn(len(l))] }

func (k *maker) number(n int64) string {
	if k.turned {
		n = -n
	}
	return strconv.FormatInt(n+k.moved, 10)
}

func (k *maker) sign() string {
	s := k.of("<", "<=", ">", ">=", "=", "!=")
	if k.turned {
		s = strings.NewReplacer("<", ">", ">", "<").Replace(s)
	}
	return s
}

func name(kind string, n int) string { return kind + strconv.Itoa(n) }

// comparison is of the attributes a0 up.
func (k *maker) comparison(attrs int) string {
	left := name("a", k.Intn(attrs))
	right := k.number(int64(k.Intn(3) * 3))
	if k.Intn(3) == 0 {
		right = name("a", k.Intn(attrs))
	}
	return left + " " + k.sign() + " " + right
}

// model is a text of a model, that need not be one: of up to 2 attributes, 2 users, 3 stages, 3 events, that write twice at most.
func (k *maker) model() string {
	var b strings.Builder
	say := func(s ...string) { b.WriteString(strings.Join(s, "")) }
	attrs, users, stages, events, miles := k.Intn(3), 1+k.Intn(2), 1+k.Intn(3), 1+k.Intn(3), 1+k.Intn(3)
	for i := range attrs {
		say("attr ", name("a", i), " = ", k.number(int64(k.Intn(8))), ";\n")
	}
	for i := range users {
		say("user ", name("u", i), ";\n")
	}
	say("role r0 = u0;\nrole r1 = ", []string{"u0", "u0 u1", "u1"}[k.Intn(1+2*(users-1))], ";\n")
	for i := range stages {
		say("stage ", name("s", i))
		if i > 0 && k.Intn(2) == 0 {
			say(" in ", name("s", k.Intn(i)))
		}
		say(";\n")
	}
	stage := func() string { return name("s", k.Intn(stages)) }
	left := 2
	for i := range events {
		say("event ", name("e", i), " by ", name("r", k.Intn(2)), " in ", stage())
		if attrs > 0 && left > 0 && k.Intn(2) == 0 {
			n := 1 + k.Intn(left)
			say(" sets ", name("a", k.Intn(attrs)), " max ", strconv.Itoa(n))
			left -= n
		} else if k.Intn(2) == 0 {
			say(" max ", strconv.Itoa(1+k.Intn(2)))
		}
		say(";\n")
	}
	when := func() {
		if k.Intn(3) == 0 {
			say(" on ", name("e", k.Intn(events)))
		}
		if attrs > 0 && k.Intn(2) == 0 {
			say(" if ", k.comparison(attrs))
		} else if k.Intn(3) == 0 {
			say(" if ", k.of("", "not "), "done ", name("m", k.Intn(miles)))
		}
	}
	say("guard s0;\n")
	for range 1 + k.Intn(3) {
		say("guard ", stage())
		when()
		say(";\n")
	}
	for i := range miles {
		say("milestone ", name("m", i), " of ", stage())
		when()
		say(k.of(";\n", ";\n", ";\n", " final;\n"))
	}
	if events > 1 && k.Intn(2) == 0 {
		say("sod e0, e1;\n")
	}
	return b.String()
}

// property is a text of a property, that may name what there is not.
func (k *maker) property(deep int) string {
	if deep == 0 || k.Intn(6) == 0 {
		atom := k.of("open s0", "open s1", "open s2", "done m0", "done m1", "complete", "stuck", "can e0", "can e1", "did u0 e0", "true", "?", "?")
		if atom == "?" {
			return k.comparison(2)
		}
		return atom
	}
	if k.Intn(3) > 0 {
		return k.of("not", "AX", "EX", "AF", "EF", "AG", "EG", "AG", "AF", "not EF", "not EG") + " (" + k.property(deep-1) + ")"
	}
	a, b := k.property(deep-1), k.property(deep-1)
	switch k.Intn(5) {
	case 0:
		return "A [" + a + " U " + b + "]"
	case 1:
		return "E [" + a + " U " + b + "]"
	case 2:
		return "not E [" + a + " U " + b + "]"
	case 3:
		return "(" + a + ") and (" + b + ")"
	}
	return "(" + a + ") implies (" + b + ")"
}

func read(t *testing.T, s string) api.Model {
	t.Helper()
	m, f, _ := model.Read(s)
	if f.Err != api.OK {
		t.Fatal(s, f)
	}
	return m
}

func property(t *testing.T, m api.Model, s string) []api.Inst {
	t.Helper()
	l, f, _ := model.Property(m, s)
	if f.Err != api.OK {
		t.Fatal(s, f)
	}
	return l
}

// isModel tells whether a text is one of a model.
func isModel(s string) bool {
	_, f, _ := model.Read(s)
	return f.Err == api.OK
}

// models tells so many texts of models that are ones.
func models(seed int64, many int, tell func(k *maker, text string)) {
	k := &maker{Rand: rand.New(rand.NewSource(seed))}
	for many > 0 {
		if text := k.model(); isModel(text) {
			tell(k, text)
			many--
		}
	}
}
