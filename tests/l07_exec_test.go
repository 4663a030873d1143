package tests

import (
	"math"
	"reflect"
	"strings"
	"testing"

	"loop.example/g00347/impl"
)

// plainPlan does an algebra as it stands, pattern by pattern in that order.
func plainPlan(a impl.Alg, order int) impl.Plan {
	p := impl.Plan{Kind: a.Kind, Expr: a.Expr, Var: a.Var, Terms: a.Terms}
	for _, kid := range a.Kids {
		p.Kids = append(p.Kids, plainPlan(kid, order))
	}
	if a.Kind == impl.AlBgp {
		p = plUnit()
		for _, pat := range a.Pats {
			p = plNest(p, order, pat)
		}
	}
	return p
}

func plTable(names string, rows ...string) impl.Plan { return plainPlan(table(names, rows...), 0) }

func tellExec(t *testing.T, g impl.Graph, p impl.Plan, list [][]byte) string {
	t.Helper()
	return tellSolved(impl.Exec(storeOf(t, g), p, list))
}

func checkExec(t *testing.T, g impl.Graph, p impl.Plan, names string, want string) {
	t.Helper()
	if got := tellExec(t, g, p, vars(strings.Fields(names)...)); got != want {
		t.Errorf("%s over %s: %q, want %q", tellPlan(p), names, got, want)
	}
}

// checkNest wants the same rows in each order.
func checkNest(t *testing.T, g impl.Graph, of impl.Plan, p impl.Pat, names string, want string) {
	t.Helper()
	for order := range 6 {
		checkExec(t, g, plNest(of, order, p), names, want)
	}
}

func TestExecOfOneRow(t *testing.T) {
	for what, g := range map[string]impl.Graph{"no triples": {}, "some": plainGraph()} {
		for names, want := range map[string]string{"": "()", "a": "-", "a b c d e f g h": "- - - - - - - -"} {
			if got := tellExec(t, g, plUnit(), vars(strings.Fields(names)...)); got != want {
				t.Errorf("%s: %q, want %q", what, got, want)
			}
		}
	}
}

func TestNestWithTermsInEachOrder(t *testing.T) {
	g := graphIn(t, `<a> <p> <b> . <a> <p> 5 . <a> <q> <b> . <b> <p> <b> . <b> <q> 5 . _:1 <q> "t" . <p> <p> <p> .`)
	u := plUnit()
	a, b, p, q := name("a"), name("b"), name("p"), name("q")
	// None of three items known, one, two, three.
	checkNest(t, g, u, pattern("?s", "?p", "?o"), "s p o", `<a> <p> <b>; <a> <p> 5; <a> <q> <b>; <b> <p> <b>; <b> <q> 5; <p> <p> <p>; _:1 <q> "t"`)
	checkNest(t, g, u, pattern(a, "?p", "?o"), "p o", `<p> <b>; <p> 5; <q> <b>`)
	checkNest(t, g, u, pattern("?s", q, "?o"), "s o", `<a> <b>; <b> 5; _:1 "t"`)
	checkNest(t, g, u, pattern("?s", "?p", b), "s p", `<a> <p>; <a> <q>; <b> <p>`)
	checkNest(t, g, u, pattern("?s", "?p", number(5, 0)), "p s", `<p> <a>; <q> <b>`)
	checkNest(t, g, u, pattern(a, p, "?o"), "o", `<b>; 5`)
	checkNest(t, g, u, pattern(a, "?p", b), "p", `<p>; <q>`)
	checkNest(t, g, u, pattern("?s", p, b), "s", `<a>; <b>`)
	checkNest(t, g, u, pattern(a, p, b), "", "()")
	checkNest(t, g, u, pattern(b, p, number(5, 0)), "", "")
	checkNest(t, g, u, pattern(blank(1), q, text("t")), "x", "-")
	checkNest(t, g, u, pattern(p, p, p), "x", "-")
	// Terms that the store has not, or has in another place alone.
	for _, pat := range []impl.Pat{pattern(name("z"), "?p", "?o"), pattern("?s", name("z"), "?o"), pattern("?s", "?p", name("z")), pattern("?s", "?p", number(5, 1)), pattern(blank(0), "?p", "?o"), pattern(q, "?p", "?o"), pattern("?s", a, "?o"), pattern("?s", "?p", a), pattern("?s", "?p", text("5")), pattern(name("z"), name("z"), name("z")), pattern(a, name("z"), b), pattern(a, p, name("z")), pattern(name("z"), p, b)} {
		checkNest(t, g, u, pat, "s p o", "")
		checkNest(t, impl.Graph{}, u, pat, "s p o", "")
	}
	checkNest(t, impl.Graph{}, u, pattern("?s", "?p", "?o"), "s p o", "")
	checkNest(t, g, plRows("s"), pattern("?s", "?p", "?o"), "s p o", "")
}

func TestNestWithTheSameVariable(t *testing.T) {
	g := graphIn(t, `<a> <p> <b> . <c> <p> <c> . <p> <p> <p> . <p> <q> <q> . <q> <p> <p> . <q> <q> <p> . <p> <p> <q> .`)
	u := plUnit()
	checkNest(t, g, u, pattern("?x", name("p"), "?x"), "x", "<c>; <p>")
	checkNest(t, g, u, pattern("?x", "?y", "?x"), "x y", "<c> <p>; <p> <p>")
	checkNest(t, g, u, pattern("?x", "?x", "?y"), "x y", "<p> <p>; <p> <q>; <q> <p>")
	checkNest(t, g, u, pattern("?y", "?x", "?x"), "x y", "<p> <p>; <p> <q>; <q> <p>")
	checkNest(t, g, u, pattern("?x", "?x", "?x"), "x", "<p>")
	checkNest(t, g, u, pattern("?x", "?x", name("p")), "x", "<p>; <q>")
	checkNest(t, g, u, pattern(name("p"), "?x", "?x"), "x", "<p>; <q>")
	// Bound by the Kid, or by some of its rows.
	for _, c := range []struct{ rows, xyx, xxy, yxx, xxx string }{
		{"<p>", "<p> <p>", "<p> <p>; <p> <q>", "<p> <p>; <p> <q>", "<p> -"}, {"<q>", "", "<q> <p>", "<q> <p>", ""}, {"<c>", "<c> <p>", "", "", ""}, {"<z>", "", "", "", ""}, {"7", "", "", "", ""}, {`"p"`, "", "", "", ""},
	} {
		of := plTable("x", c.rows)
		checkNest(t, g, of, pattern("?x", "?y", "?x"), "x y", c.xyx)
		checkNest(t, g, of, pattern("?x", "?x", "?y"), "x y", c.xxy)
		checkNest(t, g, of, pattern("?y", "?x", "?x"), "x y", c.yxx)
		checkNest(t, g, of, pattern("?x", "?x", "?x"), "x y", c.xxx)
	}
	checkNest(t, g, plTable("x y", "- -", "- <p>", "<q> -", "<p> <q>"), pattern("?x", "?x", "?y"), "x y", "<p> <p>; <p> <p>; <p> <q>; <p> <q>; <q> <p>; <q> <p>; <q> <p>")
}

func TestNestWithWhatTheKidBinds(t *testing.T) {
	g := graphIn(t, `<a> <p> <b> . <a> <p> 5 . <a> <q> <b> . <b> <p> <b> . <b> <q> 5 . _:1 <q> "t" .`)
	p := pattern("?s", "?p", "?o")
	for _, c := range []struct{ rows, want string }{
		{"- - -", `<a> <p> <b>; <a> <p> 5; <a> <q> <b>; <b> <p> <b>; <b> <q> 5; _:1 <q> "t"`},
		{"<a> - -", "<a> <p> <b>; <a> <p> 5; <a> <q> <b>"}, {"- <q> -", `<a> <q> <b>; <b> <q> 5; _:1 <q> "t"`}, {"- - <b>", "<a> <p> <b>; <a> <q> <b>; <b> <p> <b>"}, {"- - 5", "<a> <p> 5; <b> <q> 5"}, {"_:1 - -", `_:1 <q> "t"`},
		{"<a> <p> -", "<a> <p> <b>; <a> <p> 5"}, {"<a> - <b>", "<a> <p> <b>; <a> <q> <b>"}, {"- <p> <b>", "<a> <p> <b>; <b> <p> <b>"}, {"<a> <p> <b>", "<a> <p> <b>"}, {"<b> <p> 5", ""},
		// Terms that the store has not, and such as can't stand there.
		{"<z> - -", ""}, {"- <z> -", ""}, {"- - <z>", ""}, {"- - 5.5", ""}, {"5 - -", ""}, {`- "t" -`, ""}, {"- _:1 -", ""}, {"<a> <z> <b>", ""}, {"<a> <p> <z>", ""}, {"<z> <p> <b>", ""}, {"<z> <z> <z>", ""}, {"- <z> <b>", ""}, {"<a> - <z>", ""}, {"<q> - -", ""}, {"- <a> -", ""}, {"- - <a>", ""},
	} {
		checkNest(t, g, plTable("s p o", c.rows), p, "s p o", c.want)
	}
	// Several rows, of which each knows what it knows.
	checkNest(t, g, plTable("s p o", "<a> - 5", "- <q> 5", "<z> - -", "- - <z>", "<b> - -"), p, "s p o", "<a> <p> 5; <b> <p> <b>; <b> <q> 5; <b> <q> 5")
	checkNest(t, g, plTable("s x", "<a> 1", "<a> 1", "- 2"), pattern("?s", name("p"), number(5, 0)), "s x", "<a> 1; <a> 1; <a> 2")
	checkNest(t, g, plTable("s", "<a>", "<b>"), pattern("?s", name("p"), "?o"), "s o", "<a> <b>; <a> 5; <b> <b>")
	checkNest(t, g, plTable("o", "<b>", "5", "6"), pattern("?s", name("q"), "?o"), "s o", "<a> <b>; <b> 5")
	// What was told or comes of another pattern is known like all else.
	checkNest(t, g, plExtend(plUnit(), "o", exOp(impl.OpAdd, exTerm(number(2, 0)), exTerm(number(3, 0)))), p, "s p o", "<a> <p> 5; <b> <q> 5")
	checkNest(t, g, plExtend(plUnit(), "o", exTerm(number(25, 1))), p, "s p o", "")
	checkNest(t, g, plExtend(plUnit(), "o", exVar("x")), pattern("?s", name("q"), "?o"), "s o x", `<a> <b> -; <b> 5 -; _:1 "t" -`)
	checkNest(t, g, plNest(plUnit(), 3, pattern("?x", name("p"), "?s")), p, "x s p o", "<a> <b> <p> <b>; <a> <b> <q> 5; <b> <b> <p> <b>; <b> <b> <q> 5")
	checkNest(t, g, plNest(plUnit(), 3, p), p, "s p o", `<a> <p> <b>; <a> <p> 5; <a> <q> <b>; <b> <p> <b>; <b> <q> 5; _:1 <q> "t"`)
}

// eachDone wants an algebra's solutions of its plan, by each order.
func eachDone(t *testing.T, a impl.Alg, names string, want string) {
	t.Helper()
	for order := range 6 {
		checkExec(t, plainGraph(), plainPlan(a, order), names, want)
	}
}

func TestExecOfTheLike(t *testing.T) {
	one, zero := exTerm(number(1, 0)), exTerm(number(0, 0))
	none, unit, some := table("a b"), alBgp(), table("a b", "1 2", "1 -", "- 3", "1 2")
	all := "- 3 -; 1 - -; 1 2 -; 1 2 -"
	for _, c := range []struct {
		a    impl.Alg
		want string
	}{
		{none, ""}, {unit, "- - -"}, {some, all}, {alRows("b", number(2, 0), number(2, 0), name("x")), "- <x> -; - 2 -; - 2 -"},
		{alJoin(none, none), ""}, {alJoin(none, some), ""}, {alJoin(some, none), ""}, {alJoin(some, unit), all}, {alJoin(unit, some), all}, {alJoin(table("a", "1"), table("a", "2")), ""}, {alJoin(some, table("b c", "2 9", "- 8")), "- 3 8; 1 - 8; 1 2 8; 1 2 8; 1 2 9; 1 2 9; 1 2 9"},
		{alLeft(none, some, one), ""}, {alLeft(some, none, one), all}, {alLeft(unit, some, one), all}, {alLeft(some, table("b c", "2 9", "5 8"), one), "- 3 -; 1 2 9; 1 2 9; 1 2 9; 1 5 8"}, {alLeft(some, table("b c", "2 9", "5 8"), exOp(impl.OpLess, exVar("c"), exTerm(number(9, 0)))), "- 3 -; 1 2 -; 1 2 -; 1 5 8"}, {alLeft(some, table("b c", "2 9"), zero), all}, {alLeft(some, some, exVar("c")), all},
		{alPair(impl.AlUnion, none, none), ""}, {alPair(impl.AlUnion, none, some), all}, {alPair(impl.AlUnion, some, none), all}, {alPair(impl.AlUnion, table("c", "1"), some), "- - 1; " + all}, {alPair(impl.AlUnion, unit, unit), "- - -; - - -"},
		{alPair(impl.AlMinus, none, some), ""}, {alPair(impl.AlMinus, some, none), all}, {alPair(impl.AlMinus, some, unit), all}, {alPair(impl.AlMinus, some, table("c", "1")), all}, {alPair(impl.AlMinus, some, table("a", "1")), "- 3 -"}, {alPair(impl.AlMinus, some, table("b", "3", "2")), "1 - -"}, {alPair(impl.AlMinus, some, some), ""}, {alPair(impl.AlMinus, unit, some), "- - -"},
		{alFilter(none, one), ""}, {alFilter(some, one), all}, {alFilter(some, zero), ""}, {alFilter(some, exVar("a")), "1 - -; 1 2 -; 1 2 -"}, {alFilter(some, exVar("c")), ""}, {alFilter(some, ex(impl.ExNot, exBound("b"))), "1 - -"}, {alFilter(some, exOp(impl.OpLess, exVar("a"), exVar("b"))), "1 2 -; 1 2 -"},
		{alExtend(none, "c", one), ""}, {alExtend(some, "c", one), "- 3 1; 1 - 1; 1 2 1; 1 2 1"}, {alExtend(some, "c", exVar("b")), "- 3 3; 1 - -; 1 2 2; 1 2 2"}, {alExtend(some, "a", one), "1 - -; 1 2 -; 1 2 -; 1 3 -"}, {alExtend(some, "b", exTerm(number(2, 0))), "1 2 -; 1 2 -; 1 2 -"}, {alExtend(some, "a", exVar("c")), all},
	} {
		eachDone(t, c.a, "a b c", c.want)
		eachDone(t, alJoin(alBgp(), alFilter(c.a, one)), "a b c", c.want)
		checkSolve(t, plainGraph(), c.a, "a b c", c.want)
	}
	// Over what is found, too.
	x := alBgp(pattern("?a", name("q"), "?b"))
	eachDone(t, x, "a b", "<a> <b>; <a> <c>")
	eachDone(t, alJoin(x, alBgp(pattern("?b", name("p"), "?c"))), "a b c", "<a> <b> <c>; <a> <c> <a>")
	eachDone(t, alLeft(alBgp(pattern("?b", name("p"), "?c")), alBgp(pattern("?b", name("q"), "?a")), one), "a b c", "- <b> <c>; - <c> <a>; <b> <a> <b>; <c> <a> <b>")
	eachDone(t, alPair(impl.AlMinus, x, alBgp(pattern("?b", name("p"), name("a")))), "a b", "<a> <b>")
}

func TestExecWithOtherVariables(t *testing.T) {
	g := graphIn(t, "<a> <p> 1 . <b> <p> 2 .")
	p := plNest(plUnit(), 2, pattern("?x", name("p"), "?n"))
	checkExec(t, g, p, "x n", "<a> 1; <b> 2")
	checkExec(t, g, p, "n x", "1 <a>; 2 <b>")
	checkExec(t, g, p, "a n b x c", "- 1 - <a> -; - 2 - <b> -")
	checkExec(t, g, p, "a b c d e f n x", "- - - - - - 1 <a>; - - - - - - 2 <b>")
	checkExec(t, g, plRows("x", name("q"), name("a")), "y x", "- <a>; - <q>")
}

func TestOrderOfWhatIsDone(t *testing.T) {
	rows := []string{"- - -", "- - 1", "- <a> -", "- 0 -", "<a> - -", "<a> - <z>", "<a> <a> <b>", "<a> <a> <b>", "<b> - -", "_:2 - -", "_:10 - -", `"" - -`, `"a" - -`, "-10 - -", "-9 - -", "-0.5 - -", "0 - -", "0.05 - -", "0.5 - -", "9 - -", "10 - -"}
	want := strings.Join(rows, "; ")
	m := poolMaker(88)
	for range 50 {
		m.Shuffle(len(rows), func(i, j int) { rows[i], rows[j] = rows[j], rows[i] })
		checkExec(t, impl.Graph{}, plTable("a b c", rows...), "a b c", want)
	}
	checkExec(t, impl.Graph{}, plTable("a b", "1 2", "1 1", "2 -"), "b a", "- 2; 1 1; 2 1")
}

func TestExecRefusesStores(t *testing.T) {
	for what, s := range changedStores(t) {
		for _, p := range []impl.Plan{plUnit(), plRows("a", name("a")), plNest(plUnit(), 3, pattern("?a", "?b", "?c"))} {
			if got := tellSolved(impl.Exec(s, p, vars("a", "b", "c"))); got != "no" {
				t.Errorf("%s: %q", what, got)
			}
		}
	}
	if got := tellSolved(impl.Exec(manyRows(61), plUnit(), nil)); got != "no" {
		t.Errorf("61 triples: %q", got)
	}
	rows, ok := impl.Exec(storeOf(t, graph(countedTriples(60)...)), plNest(plUnit(), 4, pattern("?a", "?b", "?c")), vars("a", "b", "c"))
	if len(rows) != 60 || !ok {
		t.Errorf("60 triples: %d, %v", len(rows), ok)
	}
}

func TestExecRefusesPlans(t *testing.T) {
	all, u := "a b c d e f g h", plUnit()
	own := []impl.Plan{{Kind: impl.PlFilter, Expr: exVar("a")}}
	own[0].Kids = own
	deep := plUnit()
	for range 100000 {
		deep = plFilter(deep, exVar("a"))
	}
	for i, p := range []impl.Plan{
		{}, {Kind: impl.PlHash}, {Kind: -1}, {Kind: 9}, {Kind: math.MaxInt}, {Kind: math.MinInt}, {Kind: impl.PlRows}, {Kind: impl.PlUnit, Order: 1}, plFilter(u, impl.Expr{}), plExtend(u, "", exVar("a")), plNest(u, 0, impl.Pat{}), plNest(u, 6, pattern("?a", "?a", "?a")), plNest(u, -1, pattern("?a", "?a", "?a")), plRows("a", impl.Term{}), plPair(impl.PlLeft, u, u), own[0], deep,
		plNest(impl.Plan{}, 0, pattern("?a", "?a", "?a")), plHash(u, impl.Plan{Kind: impl.PlNest}),
	} {
		for what, p := range map[string]impl.Plan{"alone": p, "joined": plHash(plRows("a"), p), "taken away": plPair(impl.PlMinus, plRows("a"), p), "nested": plNest(p, 2, pattern("?a", "?b", "?c"))} {
			if got := tellExec(t, plainGraph(), p, vars(strings.Fields(all)...)); got != "no" {
				t.Errorf("plan %d %s: %q", i, what, got)
			}
		}
	}
	// The greatest ones that may be are done: 1440 parts, and 480 deep.
	great := plUnit()
	for range 479 {
		great = plNest(great, 5, pattern("?a", name("q"), name("b")))
	}
	checkExec(t, plainGraph(), great, "a", "<a>")
	checkExec(t, plainGraph(), plNest(great, 5, pattern("?a", name("q"), name("b"))), "a", "no")
	checkExec(t, plainGraph(), plFilter(plUnit(), expression(1438)), "a", "")
	checkExec(t, plainGraph(), plFilter(plUnit(), expression(1439)), "a", "no")
	wide := manyPlans(impl.PlHash, 1440)
	checkExec(t, graphIn(t, "<a> <a> <a> ."), wide, "a", "<a>")
	checkExec(t, graphIn(t, "<a> <a> <a> ."), manyPlans(impl.PlHash, 1441), "a", "no")
}

func TestExecRefusesVariables(t *testing.T) {
	g, u, one := plainGraph(), plUnit(), exTerm(number(1, 0))
	for what, list := range map[string][]string{
		"9 of them": {"a", "b", "c", "d", "e", "f", "g", "h", "i"}, "twice the same": {"a", "b", "a"}, "an empty one": {"a", ""}, "one that is none": {"A"}, "far too many": strings.Fields(strings.Repeat("a ", 3000)),
	} {
		if got := tellExec(t, g, u, vars(list...)); got != "no" {
			t.Errorf("%s: %q", what, got)
		}
	}
	for _, v := range badVars() {
		if got := tellExec(t, g, u, vars("a", v)); got != "no" {
			t.Errorf("%.20q: %q", v, got)
		}
	}
	// Each variable that the plan names is to be one of them, wherever it stands.
	no := plRows("a")
	for what, p := range map[string]impl.Plan{
		"as S": plNest(u, 0, pattern("?x", name("z"), name("z"))), "as P": plNest(no, 1, pattern(name("z"), "?x", name("z"))), "as O": plNest(u, 2, pattern(name("z"), name("z"), "?x")), "below a pattern": plNest(plRows("x"), 3, pattern("?a", "?a", "?a")), "asked": plFilter(no, exVar("x")), "asked, BOUND": plFilter(no, ex(impl.ExNot, exBound("x"))), "told": plExtend(no, "x", one), "of told": plExtend(no, "a", ex(impl.ExCoal, one, exVar("x"))),
		"of rows": plRows("x"), "left": plLeft(no, no, exVar("x")), "joined": plHash(u, plRows("x", number(1, 0))), "taken away": plPair(impl.PlMinus, u, plRows("x")), "united": plPair(impl.PlUnion, plRows("x"), u), "far below": plFilter(plHash(u, plLeft(u, plFilter(u, exBound("x")), one)), one),
	} {
		for _, names := range []string{"a", "a b c d e f xx", "a xx"} {
			if got := tellExec(t, g, p, vars(strings.Fields(names)...)); got != "no" {
				t.Errorf("%s over %s: %q", what, names, got)
			}
		}
		for _, names := range []string{"a x", "h g f e d c x a"} {
			if got := tellExec(t, g, p, vars(strings.Fields(names)...)); got == "no" {
				t.Errorf("%s over %s: refused though it is there", what, names)
			}
		}
	}
	if got := tellExec(t, g, plRows("a"), nil); got != "no" {
		t.Errorf("no variables: %q", got)
	}
}

func checkDone(t *testing.T, what string, g impl.Graph, p impl.Plan, want int) {
	t.Helper()
	rows, ok := impl.Exec(storeOf(t, g), p, vars("p", "q", "r", "v", "w", "x", "y", "z"))
	if want < 0 && (ok || len(rows) != 0) {
		t.Errorf("%s: %d rows, %v, want false", what, len(rows), ok)
	}
	if want >= 0 && (!ok || len(rows) != want) {
		t.Errorf("%s: %d rows, %v, want %d", what, len(rows), ok, want)
	}
}

// manyDone is so many rows, as many in the algebra.
func manyDone(count int) impl.Plan { return plainPlan(many(count), 3) }

func TestTooManyRowsAtEachKindOfPlan(t *testing.T) {
	g := twoKinds(60, 0)
	one, zero, u, no := exTerm(number(1, 0)), exTerm(number(0, 0)), plUnit(), plRows("v")
	two := plRows("v", number(1, 0), number(2, 0))
	five := plRows("y", eightTerms()[:5]...)
	for order := range 6 {
		nest := func(of impl.Plan) impl.Plan { return plNest(of, order, allOf("p", "x")) }
		checkDone(t, "five of 60", g, nest(five), 300)
		checkDone(t, "six of 60", g, nest(plRows("y", eightTerms()[:6]...)), -1)
		checkDone(t, "301 nested", twoKinds(43, 7), plNest(plNest(u, order, allOf("p", "x")), order, allOf("q", "y")), -1)
		checkDone(t, "300 nested", twoKinds(25, 12), plNest(plNest(u, order, allOf("p", "x")), order, allOf("q", "y")), 300)
		checkDone(t, "300, each known", g, nest(nest(five)), 300)
		checkDone(t, "300 of which few are there", g, plNest(nest(five), order, pattern(name("a"), name("p"), "?y")), 300)
		checkDone(t, "300 of which none is there", g, plNest(nest(five), order, pattern(name("z"), name("p"), "?y")), 0)
		checkDone(t, "more than 300, then none", g, plNest(nest(plRows("y", eightTerms()[:6]...)), order, pattern(name("z"), name("p"), "?y")), -1)
	}
	for what, c := range map[string]struct {
		p    impl.Plan
		want int
	}{
		"299": {manyDone(299), 299}, "300": {manyDone(300), 300}, "301": {manyDone(301), -1},
		"joined with none": {plHash(manyDone(300), no), 0}, "joined with one": {plHash(manyDone(300), u), 300}, "150 joined with two": {plHash(manyDone(150), two), 300}, "151 joined with two": {plHash(manyDone(151), two), -1}, "two joined with 151": {plHash(two, manyDone(151)), -1}, "many pairs of which few agree": {plHash(manyDone(300), plRows("x", number(0, 0), number(1, 0))), 10},
		"150 and 150": {plPair(impl.PlUnion, manyDone(150), manyDone(150)), 300}, "150 and 151": {plPair(impl.PlUnion, manyDone(150), manyDone(151)), -1}, "300 and one": {plPair(impl.PlUnion, manyDone(300), u), -1}, "one and 300": {plPair(impl.PlUnion, u, manyDone(300)), -1}, "none and 300": {plPair(impl.PlUnion, no, manyDone(300)), 300},
		"300 asked": {plFilter(manyDone(300), one), 300}, "301 asked": {plFilter(manyDone(301), zero), -1}, "300 told": {plExtend(manyDone(300), "v", one), 300}, "301 told": {plExtend(manyDone(301), "y", zero), -1}, "300 taken away": {plPair(impl.PlMinus, manyDone(300), manyDone(300)), 0}, "none taken away": {plPair(impl.PlMinus, manyDone(300), no), 300},
		"300 left": {plLeft(manyDone(300), no, one), 300}, "150 left with two each": {plLeft(manyDone(150), two, one), 300}, "151 left with two each": {plLeft(manyDone(151), two, one), -1}, "300 left with two each, none true": {plLeft(manyDone(300), two, zero), 300},
	} {
		checkDone(t, what, g, c.p, c.want)
	}
	// What lies within counts, though nothing of it stays.
	for what, way := range map[string]func(impl.Plan) impl.Plan{
		"joined with none": func(p impl.Plan) impl.Plan { return plHash(p, no) }, "none joined with it": func(p impl.Plan) impl.Plan { return plHash(no, p) }, "none left with it": func(p impl.Plan) impl.Plan { return plLeft(no, p, one) }, "taken away of none": func(p impl.Plan) impl.Plan { return plPair(impl.PlMinus, no, p) },
		"none is asked for": func(p impl.Plan) impl.Plan { return plFilter(p, zero) }, "nothing is found": func(p impl.Plan) impl.Plan { return plNest(p, 1, pattern("?z", name("z"), "?z")) }, "deep within": func(p impl.Plan) impl.Plan { return plHash(u, plPair(impl.PlMinus, no, plFilter(p, zero))) }, "gone, where binding fails": func(p impl.Plan) impl.Plan { return plExtend(p, "y", zero) },
	} {
		checkDone(t, what+", 300", g, way(manyDone(300)), 0)
		checkDone(t, what+", 301", g, way(manyDone(301)), -1)
	}
}

// poolPlan makes plans that may be, mostly, over few terms.
func (m maker) poolPlan(deep int) impl.Plan {
	p := impl.Plan{Kind: pick(m.Rand, 0, 0, 0, 0, 1, 1, 2, 2, 3, 3, 4, 4, 5, 5, 6, 6, 7, 8)}
	if deep <= 0 {
		p.Kind = pick(m.Rand, 7, 8, 8)
	}
	switch p.Kind {
	case impl.PlNest:
		p.Order, p.Pat = m.Intn(6), impl.Pat{S: m.poolItem(0, 1), P: m.poolItem(0), O: m.poolItem(0, 1, 2, 3)}
	case impl.PlLeft, impl.PlFilter:
		p.Expr = m.poolExpr(m.Intn(3))
	case impl.PlExtend:
		p.Expr, p.Var = m.poolExpr(m.Intn(3)), m.variable()
	case impl.PlRows:
		p.Var = m.variable()
		for range m.Intn(5) {
			p.Terms = append(p.Terms, m.poolTerm(0, 1, 2, 3))
		}
	}
	for range []int{1, 2, 2, 2, 2, 1, 1, 0, 0}[p.Kind] {
		p.Kids = append(p.Kids, m.poolPlan(deep-1))
	}
	return p
}

func TestExecAndSolveOfMeaning(t *testing.T) {
	m := poolMaker(89)
	var kinds [9]int
	var tooMany, none, more int
	list := vars("d", "a", "x", "c", "b", "g", "f", "e")
	for range 10000 {
		m.names = pick(m.Rand, []string{"a", "b"}, []string{"a", "b", "c", "d"}, []string{"a", "b", "c", "d", "e", "f", "g"})
		g, p := m.poolGraph(), m.poolPlan(m.Intn(9))
		a, ok := impl.Meaning(p)
		if !ok {
			t.Fatalf("%s means nothing", tellPlan(p))
		}
		got := tellExec(t, g, p, list)
		rows, fit := meantRows(g, meantMeaning(p))
		want := "no"
		if fit {
			want = tellSols(solsOf(rows, list))
		}
		// A pattern's own rows are never too many: so both tell false together.
		if solved := tellSolved(impl.Solve(g, a, list)); got != want || solved != want {
			t.Fatalf("%s of %s: %q, Solve tells %q, want %q", tellPlan(p), tellGraph(g), got, solved, want)
		}
		switch {
		case !fit:
			tooMany++
		case len(rows) == 0:
			none++
		default:
			more++
			kinds[p.Kind]++
		}
	}
	if tooMany < 15 || none < 1000 || more < 4000 {
		t.Errorf("%d, %d, %d show too little", tooMany, none, more)
	}
	for kind, count := range kinds {
		if count < 50 {
			t.Errorf("%d of kind %d show too little", count, kind)
		}
	}
}

func TestWhateverIsChosenTheSolutionsAreTheSame(t *testing.T) {
	m := poolMaker(90)
	list := vars("g", "f", "e", "d", "c", "b", "a")
	var rows, some, unlike, oneOnly int
	for range 2500 {
		m.names = pick(m.Rand, []string{"a", "b"}, []string{"a", "b", "c", "d"}, []string{"a", "b", "c", "d", "e", "f", "g"})
		g, a := m.poolGraph(), pick(m.Rand, m.poolAlg, m.askedAlg)(m.Intn(4))
		want, fit := impl.Solve(g, a, list)
		first, _ := impl.PlanOf(a, nil)
		s := storeOf(t, g)
		for range 6 {
			choices := m.choices(60)
			p, ok := impl.PlanOf(a, choices)
			if !ok {
				if isMeantAlg(a) {
					t.Fatalf("%s by %v: no plan", tellAlg(a), choices)
				}
				continue
			}
			got, done := impl.Exec(s, p, list)
			if done && fit && tellSols(got) != tellSols(want) {
				t.Fatalf("%s by %v of %s: %q, want %q", tellAlg(a), choices, tellGraph(g), tellSols(got), tellSols(want))
			}
			if !done && len(got) > 0 {
				t.Fatalf("%s: false with %d rows", tellPlan(p), len(got))
			}
			if done != fit {
				oneOnly++
			}
			if done && fit && len(got) > 0 {
				some++
				rows += len(got)
			}
			if told(p) != told(first) {
				unlike++
			}
		}
	}
	if rows < 20000 || some < 3000 || unlike < 6000 || oneOnly < 10 {
		t.Errorf("%d rows, %d, %d, %d show too little", rows, some, unlike, oneOnly)
	}
}

// Each list of choices up to such a length, for a query that leaves all of them open.
func TestAllChoices(t *testing.T) {
	g := graphIn(t, "<a> <p> <b> . <b> <p> <c> . <c> <p> <a> . <b> <q> 5 . <c> <q> 7 .")
	for _, body := range []string{"?x <p> ?y . ?y <q> ?n .", "?x <p> ?y . OPTIONAL { ?y <q> ?n . } FILTER NOT ( ?x = <c> )", "UNION { ?x <q> 5 . } { ?x <p> <a> . } FILTER ( ( ?x = <b> ) & BOUND ?x )", "?x <p> ?y . MINUS { ?x <q> 5 . } FILTER BOUND ?x", "?x <q> ?n . VALUES ?n { 5 7 } FILTER ( ?n < 6 )"} {
		q, _, _ := impl.QueryRead([]byte("ASK { " + body + " }"))
		a, ok := impl.Algebra(q)
		want := tellSolved(impl.Solve(g, a, impl.Vars(q)))
		if !ok || want == "no" || want == "" {
			t.Fatal(body)
		}
		seen := map[string]bool{}
		for code := range 6 * 6 * 6 * 6 * 6 {
			choices := []int{code % 6, code / 6 % 6, code / 36 % 6, code / 216 % 6, code / 1296}
			p, ok := impl.PlanOf(a, choices)
			if is := tellPlan(p); ok && seen[is] {
				continue
			} else {
				seen[is] = true
			}
			if got := tellExec(t, g, p, impl.Vars(q)); !ok || got != want {
				t.Fatalf("%s by %v: %v, %q, want %q", body, choices, ok, got, want)
			}
		}
		if len(seen) < 20 {
			t.Errorf("%s: %d plans show too little", body, len(seen))
		}
	}
}

func TestChoicesDecideHowManyRowsThereAreBetween(t *testing.T) {
	// Two patterns of 25 each together have 625 rows, but few with the third one first.
	g := twoKinds(25, 25)
	a := alBgp(allOf("p", "x"), allOf("q", "y"), pattern(name("a"), name("q"), "?x"), pattern(name("z"), name("q"), "?y"))
	for _, c := range []struct {
		choices []int
		want    string
	}{{nil, "no"}, {[]int{0, 0, 0, 1}, "no"}, {[]int{3}, ""}, {[]int{0, 0, 0, 2}, ""}, {[]int{0, 0, 0, 1, 0, 0, 1}, ""}, {[]int{0, 0, 1, 0, 0, 1}, "no"}} {
		p, ok := impl.PlanOf(a, c.choices)
		if got := tellExec(t, g, p, vars("x", "y")); !ok || got != c.want {
			t.Errorf("%v: %v, %q, want %q", c.choices, ok, got, c.want)
		}
	}
}

func TestWhatIsDoneIsNewMemory(t *testing.T) {
	g := graphIn(t, `<a> <p> "t" . <b> <p> "u" . <b> <q> "u" .`)
	x, tt, list := plNest(plUnit(), 3, pattern("?a", name("p"), "?b")), exTerm(text("told")), vars("a", "b", "c")
	for _, p := range []impl.Plan{
		plUnit(), x, plRows("a", text("x"), text("x")), plHash(x, x), plHash(x, plRows("c", name("n"))), plLeft(x, plNest(plUnit(), 0, pattern("?a", name("q"), "?c")), exTerm(number(1, 0))), plLeft(x, plRows("c"), exVar("a")), plPair(impl.PlUnion, x, x), plPair(impl.PlMinus, x, plRows("c", name("n"))), plFilter(x, exVar("b")), plExtend(x, "c", exVar("b")), plExtend(x, "c", tt), plExtend(x, "a", exVar("a")),
	} {
		p = withSpare(reflect.ValueOf(p)).Interface().(impl.Plan) // its own lists share none
		s := storeOf(t, g)
		got, ok := impl.Exec(s, p, list)
		again, _ := impl.Exec(s, p, list)
		if !ok || len(got) == 0 {
			t.Fatal(tellPlan(p))
		}
		checkOwnMemory(t, s, p, list, got, again)
		before := tellSols(again)
		for _, s := range got {
			for i, c := range s.Cells {
				if len(c.T.Text) > 0 {
					c.T.Text[0] = 'Z'
				}
				s.Cells[i] = impl.Cell{}
			}
		}
		third, _ := impl.Exec(s, p, list)
		if tellSols(again) != before || tellSols(third) != before {
			t.Errorf("%s: %q, then %q", tellPlan(p), before, tellSols(third))
		}
	}
}

func TestExecArgumentsAreLeftAlone(t *testing.T) {
	m := poolMaker(91)
	seen := 0
	for range 500 {
		type all struct {
			S    impl.Store
			P    impl.Plan
			Vars [][]byte
		}
		made := all{storeOf(t, m.poolGraph()), m.poolPlan(m.Intn(4)), vars("a", "b", "c", "d")}
		given := withSpare(reflect.ValueOf(made)).Interface().(all)
		before := wholly(reflect.ValueOf(given))
		got := tellSolved(impl.Exec(given.S, given.P, given.Vars))
		if want := tellSolved(impl.Exec(made.S, made.P, made.Vars)); got != want {
			t.Fatalf("%s: %q, want %q: what lies behind its lists plays a part", tellPlan(made.P), got, want)
		}
		if wholly(reflect.ValueOf(given)) != before {
			t.Fatalf("%s: an argument is not what it was", tellPlan(made.P))
		}
		if got != "no" && got != "" {
			seen++
		}
	}
	if seen < 200 {
		t.Errorf("%d show too little", seen)
	}
}

func TestExecIsTheSameEachTime(t *testing.T) {
	m := poolMaker(92)
	for range 100 {
		g, p := m.poolGraph(), m.poolPlan(5)
		first := tellExec(t, g, p, vars("a", "b", "c", "d"))
		for range 5 {
			if again := tellExec(t, g, p, vars("a", "b", "c", "d")); again != first {
				t.Fatalf("%s: %q, then %q", tellPlan(p), first, again)
			}
		}
	}
}

func TestExecOfQueries(t *testing.T) {
	g := graphIn(t, `<ann> <age> 34 . <ann> <knows> <bob> . <ann> <knows> _:1 . <bob> <age> 20 . <bob> <name> "Bob" . _:1 <age> 61 . _:1 <name> "" .`)
	for body, want := range map[string]string{
		"?x <age> ?n . FILTER ( 30 < ?n )": "<ann> 34; _:1 61", "?x <age> ?n . OPTIONAL { ?x <name> ?t . FILTER LEN ?t }": `<ann> 34 -; <bob> 20 "Bob"; _:1 61 -`, "?x <age> ?n . MINUS { ?y <knows> ?x . }": "<ann> 34 -", "?x <knows> ?y . ?y <age> ?n . BIND ( ?n / 2 ) ?h": "<ann> <bob> 20 10; <ann> _:1 61 30.5",
		"VALUES ?x { <bob> <ann> <zoe> } OPTIONAL { ?x <age> ?n . }": "<ann> 34; <bob> 20; <zoe> -", "UNION { ?x <name> ?t . } { ?x <age> ?n . FILTER NOT ?t }": `<bob> "Bob" -; _:1 "" -`, "": "()",
	} {
		q, _, _ := impl.QueryRead([]byte("ASK { " + body + " }"))
		a, ok := impl.Algebra(q)
		if !ok {
			t.Fatal(body)
		}
		for _, choices := range [][]int{nil, {1}, {1, 1, 1, 1, 1, 1}, {0, 5, 1, 4, 0, 3}, {-1, -1, -1, -1}, {5, 4, 3, 2, 1}} {
			p, ok := impl.PlanOf(a, choices)
			if got := tellExec(t, g, p, impl.Vars(q)); !ok || got != want {
				t.Errorf("%s by %v: %v, %q, want %q", body, choices, ok, got, want)
			}
		}
	}
	checkExec(t, g, plNest(plNest(plUnit(), 3, pattern("?x", name("age"), number(34, 0))), 0, pattern("?x", name("knows"), "?y")), "x y", "<ann> <bob>; <ann> _:1")
}
