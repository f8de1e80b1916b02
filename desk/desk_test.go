package desk_test

import (
	"slices"
	"strings"
	"testing"

	"warder/desk"
)

const example = `attr a = 1; user u; user v; role r = u v; stage s; stage t in s; event e by r in s sets a max 1; event g by r in t; guard s; guard t on e if a > 5; milestone k of t on g; milestone l of s if done k final; sod e, g;`

var alone = strings.NewReplacer("user v; ", "", "r = u v", "r = u").Replace(example)

func TestExample(t *testing.T) {
	if g := desk.New().Script("model stage s;", "check AG not open s"); !slices.Equal(g, []string{"ok", "HOLDS"}) {
		t.Error(g)
	}
}

func TestLines(t *testing.T) {
	for _, x := range []struct {
		model  string
		budget string
		line   string
		want   string
	}{
		{example, "", "check AG (done k implies done l)", "HOLDS"}, {example, "", "check AG not complete", "FAILS"}, {example, "", "check open", "PARSE 2 1 5 token"}, {example, "", "check open q", "ILL 2 1 6 name"}, {example, "2", "check true", "BUDGET"}, {example, "-5", "check true", "BUDGET"}, {example, "", "check", "PARSE 2 1 1 token"}, {example, "", "check ", "PARSE 2 1 1 token"}, {example, "", "check \n!", "PARSE 2 2 1 char"}, {example, "", "check a = 0 or a = 1 or a = 2 or a = 3 or a = 4 or a = 6", "ILL 2 0 0 long"},
		{"attr a = 9223372036854775807; user u; role r = u; stage s; guard s; event e by r in s sets a max 1;", "", "check AG a <= 9223372036854775807", "RANGE"}, {"attr a = 9223372036854775807; user u; role r = u; stage s; guard s; event e by r in s sets a max 1;", "", "trace AG a <= 9223372036854775807", "none"},
		{example, "", "trace AG not complete", "e by u sets a = 6;\ng by v;\n"}, {example, "", "trace AF complete", "e by u sets a = 4;\nloop;\nidle;\n"}, {example, "", "trace AG true", "none"}, {example, "", "trace EF stuck", "none"}, {example, "", "trace open", "none"}, {example, "2", "trace AG not complete", "none"}, {example, "", "trace", "none"},
		{example, "", "replay e by u sets a = 6; g by v;", "ok 2"}, {example, "", "replay", "ok 0"}, {example, "", "replay ", "ok 0"}, {example, "", "replay e by u sets a = 6; g by v; loop; idle;", "ok 3"}, {example, "", "replay g by u;", "3 0 0 step"}, {example, "", "replay e by u;", "2 1 1 form"}, {example, "", "replay  x", "2 1 3 token"},
		{alone, "", "deadlock", "e by u sets a = 6;\n"}, {alone, "", "deadlock x y", "e by u sets a = 6;\n"}, {example, "", "deadlock", "none"}, {alone, "1", "deadlock", "budget"}, {"", "", "deadlock", "none"}, {strings.Replace(alone, "> 5", "> 9223372036854775807", 1), "", "deadlock", "range"},
		{"stage s; guard s; milestone k of s;", "", "reach", "nodes 1\nedges 1\nends 1\ncomplete no\nstuck no\nstage s no\nmilestone k yes must\n"}, {"stage s;", "", "reach x", "nodes 1\nedges 1\nends 1\ncomplete no\nstuck no\nstage s no\n"}, {"", "0", "reach", "budget"}, {"", "", "reach", "nodes 1\nedges 1\nends 1\ncomplete no\nstuck no\n"},
		{"stage s;", "", "lint", "note 5 s\nnote 6 s\n"}, {"stage s;", "0", "lint x", "note 5 s\nnote 6 s\n"}, {"", "", "lint", ""},
		{"", "", "bound", "1"}, {"stage s; stage t;", "0", "bound", "4"}, {"attr a = 1; stage s; guard s if a < 3 or a = 5;", "", "bound x", "10"}, {example, "", "bound", "6144"},
		{"", "", "size", "1 1 1"}, {"stage s;", "", "size x", "1 1 1"}, {"", "0", "size", "budget"}, {example, "", "size", "9 14 4"},
		// all eight milestones done, and no stage open, is another colour than one stage open, and no milestone done
		{"user u; role r = u; stage s; stage t; stage v; stage w; stage x; stage y; stage z; stage q; event e by r in s; guard s; guard t on e; guard v on e; guard w on e; guard x on e; guard y on e; guard z on e; guard q on e; milestone a of s on e; milestone b of t on e; milestone c of v on e; milestone d of w on e; milestone f of x on e; milestone g of y on e; milestone h of z on e; milestone i of q on e;", "", "size", "2 2 2"},
		{example, "", "shrink true", ""}, {example, "", "shrink AG not open s", "stage s;\nguard s;\n"}, {example, "", "shrink", ""}, {example, "", "shrink open q", ""},
		{" stage s ; # x\n user u;", "", "show", "stage s;\nuser u;\n"}, {"", "", "show x", ""}, {"guard s if not (a<3 and (true or true));attr a=1;stage s;", "", "show", "guard s if not (a < 3 and (true or true));\nattr a = 1;\nstage s;\n"},
		{example, "", "", "unknown"}, {example, "", " check true", "unknown"}, {example, "", "Check true", "unknown"}, {example, "", "checks true", "unknown"}, {example, "", "\xff", "unknown"},
	} {
		d := desk.New()
		if g := d.Run("model " + x.model); g != "ok" {
			t.Fatal(x.model, g)
		}
		if x.budget != "" {
			d.Run("budget " + x.budget)
		}
		budget := d.Budget()
		for range 2 {
			if g := d.Run(x.line); g != x.want {
				t.Errorf("%.40q: %q, not %q", x.line, g, x.want)
			}
			// lines that ask change nothing
			if d.Model() != x.model || d.Budget() != budget {
				t.Fatal(x.line)
			}
		}
	}
}

func TestModelAndBudget(t *testing.T) {
	d := desk.New()
	if d.Model() != "" || d.Budget() != 1000 {
		t.Error("at first")
	}
	for _, x := range []struct {
		line, want, model string
		budget            int
	}{
		{"model user", "1 1 5 token", "", 1000}, {"model  stage s; ", "ok", " stage s; ", 1000}, {"model user u;\nuser u;", "1 2 1 twice", " stage s; ", 1000}, {"model stage s; guard s if open s;", "1 0 0 strata", " stage s; ", 1000}, {"model stage s in t; stage t in s;", "1 1 1 cycle", " stage s; ", 1000}, {"model user u; \xff", "1 1 9 char", " stage s; ", 1000},
		{"budget 7", "ok", " stage s; ", 7}, {"budget", "form", " stage s; ", 7}, {"budget x", "form", " stage s; ", 7}, {"budget 5 ", "form", " stage s; ", 7}, {"budget  5", "form", " stage s; ", 7}, {"budget +5", "form", " stage s; ", 7}, {"budget 9223372036854775808", "number", " stage s; ", 7}, {"budget 9223372036854775807", "ok", " stage s; ", 9223372036854775807}, {"budget -3", "ok", " stage s; ", -3}, {"budget 007", "ok", " stage s; ", 7},
		{"model", "ok", "", 7}, {"model user u;", "ok", "user u;", 7}, {"model ", "ok", "", 7},
	} {
		if g := d.Run(x.line); g != x.want || d.Model() != x.model || d.Budget() != x.budget {
			t.Errorf("%q: %q, %q, %d", x.line, g, d.Model(), d.Budget())
		}
	}
}

func TestScript(t *testing.T) {
	d := desk.New()
	if g := d.Script("model user u;", "model user", "budget 1", "size", "budget 0", "size", "show", "x"); !slices.Equal(g, []string{"ok", "1 1 5 token", "ok", "1 1 1", "ok", "budget", "user u;\n", "unknown"}) {
		t.Error(g)
	}
	if d.Model() != "user u;" || d.Budget() != 0 || len(d.Script()) != 0 {
		t.Error(d.Model(), d.Budget())
	}
}

func TestNilAndSuchAsNoCallMade(t *testing.T) {
	var d *desk.Desk
	if d.Model() != "" || d.Budget() != 0 || d.Run("model user u;") != "" || d.Run("size") != "" || d.Run("budget 5") != "" || len(d.Script("size", "show")) != 0 {
		t.Error("nil")
	}
	d = &desk.Desk{}
	if d.Model() != "" || d.Budget() != 0 {
		t.Error("at first")
	}
	if g := d.Script("check true", "size", "budget 3", "check true", "model stage s;", "show"); !slices.Equal(g, []string{"BUDGET", "budget", "ok", "HOLDS", "ok", "stage s;\n"}) {
		t.Error(g)
	}
}
