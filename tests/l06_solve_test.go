package tests

import (
	"fmt"
	"math"
	"math/rand"
	"reflect"
	"sort"
	"strings"
	"testing"

	"loop.example/g00347/impl"
)

// termIn reads one term.
func termIn(s string) impl.Term {
	g, code, at := impl.GraphRead([]byte("<s> <p> " + s + " ."))
	if code != impl.ReadWell || len(g.List) != 1 {
		panic(fmt.Sprint(s, " is no term: ", code, at))
	}
	return g.List[0].O
}

func graphIn(t *testing.T, s string) impl.Graph {
	t.Helper()
	g, code, at := impl.GraphRead([]byte(s))
	if code != impl.ReadWell {
		t.Fatalf("%s: read with %d at %d", s, code, at)
	}
	return g
}

// table is an algebra with just these rows over these variables, "-" for an empty cell.
func table(names string, rows ...string) impl.Alg {
	list := strings.Fields(names)
	all := alRows(list[0]) // no row
	for i, row := range rows {
		own := alBgp()
		for k, cell := range strings.Fields(row) {
			if cell != "-" {
				own = meantAnd(own, alRows(list[k], termIn(cell)))
			}
		}
		if i == 0 {
			all = own
		} else {
			all = alPair(impl.AlUnion, all, own)
		}
	}
	return all
}

func tellCell(c impl.Cell) string {
	if !c.Has && isZero(c.T) {
		return "-"
	}
	if !c.Has || !impl.TermOk(c.T) {
		return "?"
	}
	return string(impl.Show(c.T))
}

// tellSols parts rows by "; ", and writes a row without cells as "()".
func tellSols(list []impl.Sol) string {
	var rows []string
	for _, s := range list {
		var cells []string
		for _, c := range s.Cells {
			cells = append(cells, tellCell(c))
		}
		rows = append(rows, strings.Join(cells, " "))
		if len(cells) == 0 {
			rows[len(rows)-1] = "()"
		}
	}
	return strings.Join(rows, "; ")
}

// tellSolved is "no" where it is false.
func tellSolved(list []impl.Sol, ok bool) string {
	if !ok && len(list) == 0 {
		return "no"
	}
	if !ok {
		return "no, but " + tellSols(list)
	}
	return tellSols(list)
}

func checkSolve(t *testing.T, g impl.Graph, a impl.Alg, names string, want string) {
	t.Helper()
	if got := tellSolved(impl.Solve(g, a, vars(strings.Fields(names)...))); got != want {
		t.Errorf("%s over %s: %q, want %q", tellAlg(a), names, got, want)
	}
}

// checkBody solves ASK with such a group over the variables in the order in which they come.
func checkBody(t *testing.T, g impl.Graph, body string, want string) {
	t.Helper()
	q, code, at := impl.QueryRead([]byte("ASK { " + body + " }"))
	a, ok := impl.Algebra(q)
	if code != impl.ReadWell || !ok {
		t.Fatalf("%s: %v, read with %d at %d", body, ok, code, at)
	}
	if got := tellSolved(impl.Solve(g, a, impl.Vars(q))); got != want {
		t.Errorf("%s: %q, want %q", body, got, want)
	}
}

func isSolved(g impl.Graph, a impl.Alg, names string) (int, bool) {
	list, ok := impl.Solve(g, a, vars(strings.Fields(names)...))
	return len(list), ok
}

func TestPatternsAreFound(t *testing.T) {
	g := graphIn(t, `<a> <p> <b> . <a> <q> 5 . <b> <p> <c> . <b> <q> 7 . <c> <p> <c> . <p> <p> <p> . <p> <q> <q> . <q> <p> <p> . _:1 <p> <a> . _:1 <q> "t" .`)
	for body, want := range map[string]string{
		"":              "()",
		"?x <q> ?y .":   `<a> 5; <b> 7; <p> <q>; _:1 "t"`,
		"?x <q> 5 .":    "<a>",
		"?x <q> 6 .":    "",
		"?x <q> 0.5 .":  "",
		`?x <q> "t" .`:  "_:1",
		`?x <q> "T" .`:  "",
		"?x <z> ?y .":   "",
		"<z> ?x ?y .":   "",
		"<b> ?x ?y .":   "<p> <c>; <q> 7",
		"?x ?y <c> .":   "<b> <p>; <c> <p>",
		"<b> <p> ?x .":  "<c>",
		"<b> ?x <c> .":  "<p>",
		"<a> <p> <b> .": "()",
		"<a> <p> <c> .": "",
		// A blank is a term like others: it stands for itself alone.
		"_:1 <p> ?x .": "<a>", "_:2 <p> ?x .": "", `_:1 ?x "t" .`: "<q>", "?x <p> _:1 .": "",
		// The same variable twice, and thrice.
		"?x <p> ?x .": "<c>; <p>", "?x ?x ?y .": "<p> <p>", "?x ?y ?x .": "<c> <p>; <p> <p>", "?x ?y ?y .": "<p> <p>; <p> <q>; <q> <p>", "?x ?x ?x .": "<p>",
		// Pattern behind pattern.
		"?x <p> ?y . ?y <q> ?n .":             `<a> <b> 7; <p> <p> <q>; <q> <p> <q>; _:1 <a> 5`,
		"?x <p> ?y . ?y <p> ?x .":             "<c> <c>; <p> <p>",
		"?x <q> ?n . ?x <p> ?y . ?y <p> ?z .": `<a> 5 <b> <c>; <b> 7 <c> <c>; <p> <q> <p> <p>; _:1 "t" <a> <b>`,
		"?x <q> 5 . ?x <q> 5 .":               "<a>", "?x <q> 5 . ?x <q> 7 .": "", "<a> <q> 5 . <b> <q> 7 .": "()", "<a> <q> 5 . <b> <q> 8 .": "", "<a> <q> 8 . ?x <p> ?y .": "",
		"?x <q> 5 . ?y <q> 7 .":      "<a> <b>",
		"<a> ?x ?y . <b> ?z ?w .":    "<p> <b> <p> <c>; <p> <b> <q> 7; <q> 5 <p> <c>; <q> 5 <q> 7",
		"<p> <q> ?x . <a> ?x ?y .":   "<q> 5",
		"?x <q> ?y . <p> ?y ?z .":    "<p> <q> <q>",
		"<a> <q> ?x . ?x <p> ?y .":   "",
		"_:1 <q> ?x . ?y ?z ?x .":    `"t" _:1 <q>`,
		"?x ?y ?z . ?z ?y ?x .":      "<c> <p> <c>; <p> <p> <p>",
		"?x <p> ?x . ?x ?x ?x .":     "<p>",
		"<p> <p> <p> . ?x <p> ?x .":  "<c>; <p>",
		"<z> <p> <p> . ?x <p> ?x .":  "",
		"?x <p> ?y . <z> <p> <p> .":  "",
		"?x <q> ?y . ?y <q> ?z .":    "",
		"?x <q> ?y . ?y ?z ?w .":     "<p> <q> <p> <p>",
		"?a <q> ?b . <p> ?b ?b .":    "<p> <q>",
		"?x <p> ?y . ?x <q> <nil> .": "",
	} {
		checkBody(t, g, body, want)
	}
	checkSolve(t, impl.Graph{}, alBgp(), "", "()")
	checkSolve(t, impl.Graph{}, alBgp(), "a b", "- -")
	checkSolve(t, impl.Graph{}, alBgp(pattern("?a", "?b", "?c")), "a b c", "")
	checkSolve(t, g, alBgp(), "a", "-")
}

func TestVariablesThatTheAlgebraDoesNotName(t *testing.T) {
	g := graphIn(t, "<a> <p> 1 . <b> <p> 2 .")
	x := alBgp(pattern("?x", name("p"), "?n"))
	checkSolve(t, g, x, "x n", "<a> 1; <b> 2")
	checkSolve(t, g, x, "n x", "1 <a>; 2 <b>")
	checkSolve(t, g, x, "a n b x c", "- 1 - <a> -; - 2 - <b> -")
	checkSolve(t, g, x, "a b c d e f n x", "- - - - - - 1 <a>; - - - - - - 2 <b>")
	checkSolve(t, g, alRows("x", name("q"), name("a")), "y x", "- <a>; - <q>")
}

func TestRowsOfValues(t *testing.T) {
	g := impl.Graph{}
	checkSolve(t, g, alRows("v"), "v", "")
	checkSolve(t, g, alRows("v", number(1, 0)), "v", "1")
	checkSolve(t, g, alRows("v", number(1, 0), number(1, 0), number(1, 0)), "v", "1; 1; 1")
	checkSolve(t, g, alRows("v", text("b"), number(2, 0), blank(4), name("z"), number(-5, 1), text(""), name("a"), blank(0)), "v", `<a>; <z>; _:0; _:4; ""; "b"; -0.5; 2`)
	checkBody(t, g, "VALUES ?v { 2 1 2 }", "1; 2; 2")
	checkBody(t, g, "VALUES ?v { }", "")
	for _, x := range goodTerms() {
		list, ok := impl.Solve(g, alRows("v", x), vars("v"))
		if !ok || len(list) != 1 || len(list[0].Cells) != 1 || !list[0].Cells[0].Has || !same(list[0].Cells[0].T, x) {
			t.Errorf("%s: %v, %v", tell(x), list, ok)
		}
	}
}

func TestOrderOfSolutions(t *testing.T) {
	rows := []string{"- - -", "- - 1", "- <a> -", "- <a> 1", "- 0 -", "<a> - -", "<a> - <z>", "<a> <a> -", "<a> <a> <b>", "<a> <a> <b>", "<b> - -", "_:2 - -", "_:10 - -", `"" - -`, `"A" - -`, `"a" - -`, "-10 - -", "-9 - -", "-0.5 - -", "0 - -", "0.05 - -", "0.5 - -", "9 - -", "10 - -"}
	want := strings.Join(rows, "; ")
	source := rand.New(rand.NewSource(64))
	for range 200 {
		source.Shuffle(len(rows), func(i, j int) { rows[i], rows[j] = rows[j], rows[i] })
		checkSolve(t, impl.Graph{}, table("a b c", rows...), "a b c", want)
	}
	// The variables' order decides which cell is the first.
	two := table("a b", "1 2", "2 1", "- 3", "3 -")
	checkSolve(t, impl.Graph{}, two, "a b", "- 3; 1 2; 2 1; 3 -")
	checkSolve(t, impl.Graph{}, two, "b a", "- 3; 1 2; 2 1; 3 -")
	checkSolve(t, impl.Graph{}, table("a b", "1 2", "1 1", "2 -"), "b a", "- 2; 1 1; 2 1")
}

func TestJoins(t *testing.T) {
	none, unit := table("a b"), alBgp()
	for _, c := range []struct {
		a, b impl.Alg
		want string
	}{
		{none, none, ""}, {none, unit, ""}, {unit, none, ""}, {unit, unit, "- - -"},
		{table("a", "1"), none, ""}, {none, table("a", "1"), ""}, {table("a", "1"), unit, "1 - -"}, {unit, table("a", "1"), "1 - -"},
		{table("a", "1"), table("a", "1"), "1 - -"}, {table("a", "1"), table("a", "2"), ""}, {table("a", "1"), table("b", "2"), "1 2 -"},
		{table("a", "1", "1"), table("a", "1", "1", "1"), "1 - -; 1 - -; 1 - -; 1 - -; 1 - -; 1 - -"},
		{table("a b", "1 2", "3 4"), table("b c", "2 5", "2 6", "7 8"), "1 2 5; 1 2 6"},
		// Cells that are empty on one side, on the other and on both.
		{table("a b", "1 -", "2 -"), table("a b", "- 3", "1 4"), "1 3 -; 1 4 -; 2 3 -"},
		{table("a b", "- 1", "- 2"), table("a b", "- 1", "5 1"), "- 1 -; 5 1 -"},
		{table("a b", "- -", "1 -"), table("a b", "- -", "- 2"), "- - -; - 2 -; 1 - -; 1 2 -"},
		{table("a b c", "1 2 -", "1 - 3"), table("a b c", "1 - 4", "- 5 3"), "1 2 4; 1 5 3"},
		{table("a b", "<a> 1"), table("a b", `"a" 1`), ""}, {table("a", "1"), table("a", "_:1"), ""}, {table("a", `""`), table("a", "0"), ""}, {table("a", "5"), table("a", "0.5"), ""},
	} {
		checkSolve(t, impl.Graph{}, alJoin(c.a, c.b), "a b c", c.want)
		checkSolve(t, impl.Graph{}, alJoin(c.b, c.a), "a b c", c.want)
	}
}

func TestUnions(t *testing.T) {
	none := table("a b")
	for _, c := range []struct {
		a, b impl.Alg
		want string
	}{
		{none, none, ""}, {none, alBgp(), "- -"}, {alBgp(), alBgp(), "- -; - -"}, {table("a", "1"), none, "1 -"}, {table("a", "1"), table("a", "1"), "1 -; 1 -"},
		{table("a", "2", "1"), table("b", "1"), "- 1; 1 -; 2 -"}, {table("a b", "1 2", "- 3"), table("a b", "1 2", "1 -"), "- 3; 1 -; 1 2; 1 2"},
	} {
		checkSolve(t, impl.Graph{}, alPair(impl.AlUnion, c.a, c.b), "a b", c.want)
		checkSolve(t, impl.Graph{}, alPair(impl.AlUnion, c.b, c.a), "a b", c.want)
	}
}

func TestWhatMayBeThereBesides(t *testing.T) {
	none, unit, one := table("a b"), alBgp(), exTerm(number(1, 0))
	first, second := table("a", "1", "2", "3"), table("a b", "1 5", "1 6", "2 7")
	less := func(n int) impl.Expr { return exOp(impl.OpLess, exVar("b"), exTerm(number(n, 0))) }
	for _, c := range []struct {
		a, b impl.Alg
		e    impl.Expr
		want string
	}{
		{none, none, one, ""}, {none, second, one, ""}, {first, none, one, "1 - -; 2 - -; 3 - -"}, {unit, none, one, "- - -"}, {unit, unit, one, "- - -"}, {unit, second, one, "1 5 -; 1 6 -; 2 7 -"}, {first, unit, one, "1 - -; 2 - -; 3 - -"},
		{first, second, one, "1 5 -; 1 6 -; 2 7 -; 3 - -"},
		// Expr is true of all, some and none, comes to nothing, and has no truth.
		{first, second, less(9), "1 5 -; 1 6 -; 2 7 -; 3 - -"}, {first, second, less(6), "1 5 -; 2 - -; 3 - -"}, {first, second, less(7), "1 5 -; 1 6 -; 2 - -; 3 - -"}, {first, second, less(5), "1 - -; 2 - -; 3 - -"},
		{first, second, exTerm(number(0, 0)), "1 - -; 2 - -; 3 - -"}, {first, second, exTerm(text("")), "1 - -; 2 - -; 3 - -"}, {first, second, exVar("c"), "1 - -; 2 - -; 3 - -"}, {first, second, exTerm(name("a")), "1 - -; 2 - -; 3 - -"},
		{first, second, exTerm(text("x")), "1 5 -; 1 6 -; 2 7 -; 3 - -"}, {first, second, exOp(impl.OpDiv, exVar("b"), exTerm(number(0, 0))), "1 - -; 2 - -; 3 - -"},
		// Expr sees what the first one binds, too, and is not asked where there is no second one.
		{first, second, exOp(impl.OpSame, exVar("a"), exTerm(number(1, 0))), "1 5 -; 1 6 -; 2 - -; 3 - -"}, {first, second, ex(impl.ExNot, exBound("b")), "1 - -; 2 - -; 3 - -"}, {first, table("a b", "1 -", "3 4"), ex(impl.ExNot, exBound("b")), "1 - -; 2 - -; 3 - -"},
		{table("a c", "1 8", "2 4"), table("a b", "1 5", "2 5"), exOp(impl.OpLess, exVar("b"), exVar("c")), "1 5 8; 2 - 4"},
		// Like rows stay as many as they are, and empty cells take what comes.
		{table("a", "1", "1", "9", "9"), table("a b", "1 5", "1 5"), one, "1 5 -; 1 5 -; 1 5 -; 1 5 -; 9 - -; 9 - -"}, {table("a b", "- 1", "- 2"), table("a b", "7 1", "8 -"), one, "7 1 -; 8 1 -; 8 2 -"},
		{table("a b", "1 2"), table("a b", "1 3"), one, "1 2 -"}, {table("a b", "1 2"), table("a b", "1 3", "1 2"), one, "1 2 -"}, {table("a b", "1 2", "1 -"), table("a b", "1 3", "- -"), one, "1 - -; 1 2 -; 1 3 -"},
	} {
		checkSolve(t, impl.Graph{}, alLeft(c.a, c.b, c.e), "a b c", c.want)
	}
	g := graphIn(t, "<a> <p> <b> . <a> <q> 5 . <b> <p> <c> . <b> <q> 7 .")
	checkBody(t, g, "?x <p> ?y . OPTIONAL { ?y <q> ?n . }", "<a> <b> 7; <b> <c> -")
	checkBody(t, g, "?x <q> ?n . OPTIONAL { ?x <p> ?y . ?y <q> ?m . FILTER ( ?n < ?m ) }", "<a> 5 <b> 7; <b> 7 - -")
	checkBody(t, g, "OPTIONAL { ?x <z> ?y . }", "- -")
}

func TestWhatIsTakenAway(t *testing.T) {
	none, unit := table("a b"), alBgp()
	first := table("a b", "1 2", "1 3", "4 5", "4 5")
	all := "1 2 -; 1 3 -; 4 5 -; 4 5 -"
	for _, c := range []struct {
		a, b impl.Alg
		want string
	}{
		{none, none, ""}, {none, first, ""}, {first, none, all}, {first, first, ""}, {unit, unit, "- - -"}, {unit, first, "- - -"}, {first, unit, all},
		{first, table("a", "1"), "4 5 -; 4 5 -"}, {first, table("a", "4"), "1 2 -; 1 3 -"}, {first, table("a", "9"), all}, {first, table("b", "3", "5"), "1 2 -"}, {first, table("a b", "1 5"), all}, {first, table("a b", "1 2"), "1 3 -; 4 5 -; 4 5 -"},
		// Rows that bind none of the first one's variables take nothing away, though they go together with all.
		{first, table("c", "1", "7"), all}, {first, table("a b c", "- - 1", "- - -"), all}, {first, table("a c", "4 1", "- 2"), "1 2 -; 1 3 -"}, {table("a", "1"), table("b", "1"), "1 - -"},
		// One that binds another, but does not go together, takes nothing away.
		{table("a b", "1 2"), table("a b", "1 3"), "1 2 -"}, {table("a b", "1 2"), table("a b", "1 3", "- 2"), ""}, {table("a b", "1 -"), table("a b", "1 3"), ""}, {table("a b", "- 2", "1 -", "- -"), table("a b", "1 3"), "- - -; - 2 -"},
		{table("a b", "1 -"), table("a b", "- 3"), "1 - -"}, {table("a b", "1 -", "- 3", "1 3"), table("a b", "- 3"), "1 - -"}, {table("a", "1", "1", "2"), table("a", "1"), "2 - -"},
		// What binds more than the first one.
		{table("a", "1", "2"), table("a b c", "1 5 6", "1 - -"), "2 - -"}, {table("a", `"1"`, "1", "_:1", "<b>"), table("a", "1"), `<b> - -; _:1 - -; "1" - -`},
	} {
		checkSolve(t, impl.Graph{}, alPair(impl.AlMinus, c.a, c.b), "a b c", c.want)
	}
}

func TestWhatIsAskedOfRows(t *testing.T) {
	rows := table("a b", "1 -", "0 -", `"" -`, `"x" -`, "<n> -", "_:1 -", "- 1", "2 3", "2 3")
	for s, want := range map[string]string{
		"?a": `"x" -; 1 -; 2 3; 2 3`, "NOT ?a": `"" -; 0 -`, "BOUND ?a": `<n> -; _:1 -; "" -; "x" -; 0 -; 1 -; 2 3; 2 3`, "NOT BOUND ?a": "- 1", "( BOUND ?a & BOUND ?b )": "2 3; 2 3", "?c": "", "NOT ?c": "", "1": `- 1; <n> -; _:1 -; "" -; "x" -; 0 -; 1 -; 2 3; 2 3`, "0": "", "<a>": "", `""`: "",
		"( ?a < ?b )": "2 3; 2 3", "( ?a = 1 )": "1 -", "( ?a = <n> )": "<n> -", "( ( ?a = 1 ) | ( ?b = 1 ) )": "- 1; 1 -", "LEN ?a": `"x" -`, "( ?b / 0 )": "", "COAL { ?b 0 }": "- 1; 2 3; 2 3", "IF BOUND ?b ( ?b - 1 ) ?a": `"x" -; 1 -; 2 3; 2 3`,
	} {
		a := alFilter(rows, exprIn(t, s))
		list, ok := impl.Solve(impl.Graph{}, a, vars("a", "b", "c"))
		for i := range list {
			list[i].Cells = list[i].Cells[:2]
		}
		if got := tellSolved(list, ok); got != want {
			t.Errorf("%s: %q, want %q", s, got, want)
		}
	}
	checkSolve(t, impl.Graph{}, alFilter(table("a"), exTerm(number(1, 0))), "a", "")
	checkSolve(t, impl.Graph{}, alFilter(alBgp(), exTerm(number(1, 0))), "", "()")
	checkSolve(t, impl.Graph{}, alFilter(alBgp(), exTerm(number(0, 0))), "", "")
}

func TestWhatIsTold(t *testing.T) {
	rows := table("a b", "1 -", "2 3", "- 4", "<x> 1", "1 1")
	for s, want := range map[string]string{
		"( ?a + 1 )": "- 4 -; <x> 1 -; 1 - 2; 1 1 2; 2 3 3", "?b": "- 4 4; <x> 1 1; 1 - -; 1 1 1; 2 3 3", "7": "- 4 7; <x> 1 7; 1 - 7; 1 1 7; 2 3 7", "( 1 / 0 )": "- 4 -; <x> 1 -; 1 - -; 1 1 -; 2 3 -", "BOUND ?a": "- 4 0; <x> 1 1; 1 - 1; 1 1 1; 2 3 1",
		`"t"`: `- 4 "t"; <x> 1 "t"; 1 - "t"; 1 1 "t"; 2 3 "t"`, "?c": "- 4 -; <x> 1 -; 1 - -; 1 1 -; 2 3 -", "BOUND ?c": "- 4 0; <x> 1 0; 1 - 0; 1 1 0; 2 3 0",
	} {
		checkSolve(t, impl.Graph{}, alExtend(rows, "c", exprIn(t, s)), "a b c", want)
	}
	// A variable that is bound already: to the same term, to another, or not at all; and where Expr comes to nothing.
	for s, want := range map[string]string{
		"1": "1 -; 1 1; 1 4", "2": "2 3; 2 4", "?a": "- 4; <x> 1; 1 -; 1 1; 2 3", "?b": "1 -; 1 1; 4 4", "( ?a + 0 )": "- 4; <x> 1; 1 -; 1 1; 2 3", "( ?a + 1 )": "- 4; <x> 1", "( 1 / 0 )": "- 4; <x> 1; 1 -; 1 1; 2 3", "<y>": "<y> 4", "1.5": "1.5 4", "BOUND ?b": "1 1; 1 4",
	} {
		checkSolve(t, impl.Graph{}, alExtend(rows, "a", exprIn(t, s)), "a b", want)
	}
	checkSolve(t, impl.Graph{}, alExtend(alBgp(), "a", exTerm(number(1, 0))), "a", "1")
	checkSolve(t, impl.Graph{}, alExtend(alBgp(), "a", exVar("a")), "a", "-")
	checkSolve(t, impl.Graph{}, alExtend(table("a"), "a", exTerm(number(1, 0))), "a", "")
	checkSolve(t, impl.Graph{}, alExtend(table("a", "1", "1"), "b", exTerm(name("n"))), "a b", "1 <n>; 1 <n>")
}

// hasNoSolutions wants false and nothing beside it.
func hasNoSolutions(t *testing.T, what string, g impl.Graph, a impl.Alg, vars [][]byte) {
	t.Helper()
	if got := tellSolved(impl.Solve(g, a, vars)); got != "no" {
		t.Errorf("%s: %q", what, got)
	}
}

func TestSolveRefusesGraphs(t *testing.T) {
	a := alBgp(pattern("?a", "?b", "?c"))
	for what, g := range map[string]impl.Graph{
		"not ascending": graph(triple(name("b"), name("p"), name("c")), triple(name("a"), name("p"), name("c"))), "twice the same": graph(triple(name("b"), name("p"), name("c")), triple(name("b"), name("p"), name("c"))), "a zero triple": graph(impl.Triple{}),
		"a text as S": graph(triple(text("a"), name("p"), name("c"))), "a blank as P": graph(triple(name("a"), blank(1), name("c"))), "O is none": graph(triple(name("a"), name("p"), number(10, 1))), "61 triples": graph(countedTriples(61)...),
	} {
		hasNoSolutions(t, what, g, a, vars("a", "b", "c"))
		hasNoSolutions(t, what+", not asked", g, alBgp(), nil)
	}
	if n, ok := isSolved(graph(countedTriples(60)...), a, "a b c"); n != 60 || !ok {
		t.Error(n, ok)
	}
}

func TestSolveRefusesAlgebras(t *testing.T) {
	g, all := plainGraph(), vars("a", "b", "c", "d", "e", "f", "g", "h")
	wrong := []impl.Alg{{Kind: impl.AlJoin}, {Kind: -1}, {Kind: 8}, {Kind: math.MaxInt}, {Kind: impl.AlRows}, alFilter(alBgp(), impl.Expr{}), alExtend(alBgp(), "", exVar("a")), alBgp(impl.Pat{}), alRows("a", impl.Term{}), alPair(impl.AlLeft, alBgp(), alBgp()), {Var: []byte("a")}, patterns(121)}
	for i, a := range wrong {
		hasNoSolutions(t, fmt.Sprint("algebra ", i), g, a, all)
		// Below something that leaves no rows, too.
		hasNoSolutions(t, fmt.Sprint("algebra ", i, " joined"), g, alJoin(table("a"), a), all)
		hasNoSolutions(t, fmt.Sprint("algebra ", i, " taken away"), g, alPair(impl.AlMinus, table("a"), a), all)
	}
	own := []impl.Alg{{Kind: impl.AlFilter, Expr: exVar("a")}}
	own[0].Kids = own
	hasNoSolutions(t, "an algebra that holds itself", g, own[0], all)
	deep := alBgp()
	for range 100000 {
		deep = alFilter(deep, exVar("a"))
	}
	hasNoSolutions(t, "a very deep one", g, deep, all)
	// The greatest ones that may be are solved: 480 parts, and 240 deep.
	great := alBgp()
	for range 239 {
		great = alFilter(great, exTerm(number(1, 0)))
	}
	checkSolve(t, g, great, "a", "-")
	checkSolve(t, g, alFilter(great, exTerm(number(1, 0))), "a", "no")
	checkSolve(t, g, alFilter(alBgp(), expression(478)), "a", "")
	checkSolve(t, g, alFilter(alRows("a", number(1, 0)), expression(479)), "a", "no")
}

func TestSolveRefusesVariables(t *testing.T) {
	g := plainGraph()
	for what, list := range map[string][]string{
		"9 of them": {"a", "b", "c", "d", "e", "f", "g", "h", "i"}, "twice the same": {"a", "b", "a"}, "an empty one": {"a", ""}, "one that is none": {"A"}, "far too many": strings.Fields(strings.Repeat("a ", 3000)),
	} {
		hasNoSolutions(t, what, g, alBgp(), vars(list...))
	}
	for _, v := range badVars() {
		hasNoSolutions(t, fmt.Sprintf("%.20q", v), g, alBgp(), vars("a", v))
	}
	// Each variable that the algebra names is to be one of them, wherever it stands.
	one := exTerm(number(1, 0))
	for what, a := range map[string]impl.Alg{
		"as S": alBgp(pattern("?x", name("z"), name("z"))), "as P": alBgp(pattern(name("z"), "?x", name("z"))), "as O": alBgp(pattern(name("z"), name("z"), "?x")), "in the last pattern": alBgp(pattern("?a", "?a", "?a"), pattern("?a", "?a", "?x")),
		"asked": alFilter(table("a"), exVar("x")), "asked, BOUND": alFilter(table("a"), ex(impl.ExNot, exBound("x"))), "told": alExtend(table("a"), "x", one), "of told": alExtend(table("a"), "a", ex(impl.ExCoal, one, exVar("x"))), "of rows": alRows("x"), "left": alLeft(table("a"), table("a"), exVar("x")),
		"joined": alJoin(alBgp(), alRows("x", number(1, 0))), "taken away": alPair(impl.AlMinus, alBgp(), alRows("x")), "united": alPair(impl.AlUnion, alRows("x"), alBgp()), "far below": alFilter(alJoin(alBgp(), alLeft(alBgp(), alFilter(alBgp(), exBound("x")), one)), one),
	} {
		hasNoSolutions(t, what, g, a, vars("a"))
		hasNoSolutions(t, what+", among seven", g, a, vars("a", "b", "c", "d", "e", "f", "xx"))
		if _, ok := isSolved(g, a, "a x"); !ok {
			t.Errorf("%s: refused though it is there", what)
		}
		if _, ok := isSolved(g, a, "h g f e d c x a"); !ok {
			t.Errorf("%s: refused though it is there, among others", what)
		}
	}
	hasNoSolutions(t, "no variables", g, alHas("a"), nil)
	if _, ok := isSolved(g, alHas("a", "b", "c", "d", "e", "f", "g", "h"), "a b c d e f g h"); !ok {
		t.Error("8 of 8 are refused")
	}
}

// twoKinds has so many triples with p, and so many with q.
func twoKinds(p int, q int) impl.Graph {
	var list []impl.Triple
	for i := range p {
		list = append(list, triple(name("a"), name("p"), number(i, 0)))
	}
	for i := range q {
		list = append(list, triple(name("a"), name("q"), number(i, 0)))
	}
	return graph(list...)
}

func checkCount(t *testing.T, what string, g impl.Graph, a impl.Alg, want int) {
	t.Helper()
	n, ok := isSolved(g, a, "p q r v w x y z")
	if want < 0 && (ok || n != 0) {
		t.Errorf("%s: %d rows, %v, want false", what, n, ok)
	}
	if want >= 0 && (!ok || n != want) {
		t.Errorf("%s: %d rows, %v, want %d", what, n, ok, want)
	}
}

func allOf(property string, v string) impl.Pat { return pattern(name("a"), name(property), "?"+v) }

func TestTooManyRowsBehindAPattern(t *testing.T) {
	both := alBgp(allOf("p", "p"), allOf("q", "q"))
	checkCount(t, "300", twoKinds(12, 25), both, 300)
	checkCount(t, "300 the other way round", twoKinds(25, 12), both, 300)
	checkCount(t, "301", twoKinds(7, 43), both, -1)
	checkCount(t, "301 the other way round", twoKinds(43, 7), both, -1)
	// A pattern behind it that leaves few, or none, comes too late; ahead of it, it is in time.
	few, none := pattern(name("a"), name("p"), number(3, 0)), pattern(name("a"), name("z"), number(3, 0))
	one := pattern(name("a"), name("q"), "?p")
	for what, c := range map[string]struct {
		pats []impl.Pat
		g    impl.Graph
		want int
	}{
		"301, then one that is there": {[]impl.Pat{allOf("p", "p"), allOf("q", "q"), few}, twoKinds(7, 43), -1}, "301, then none": {[]impl.Pat{allOf("p", "p"), allOf("q", "q"), none}, twoKinds(7, 43), -1}, "none, then 301": {[]impl.Pat{none, allOf("p", "p"), allOf("q", "q")}, twoKinds(7, 43), 0}, "between": {[]impl.Pat{allOf("p", "p"), none, allOf("q", "q")}, twoKinds(7, 43), 0},
		"300, then none": {[]impl.Pat{allOf("p", "p"), allOf("q", "q"), none}, twoKinds(12, 25), 0}, "300, then one that is there": {[]impl.Pat{allOf("p", "p"), allOf("q", "q"), few}, twoKinds(12, 25), 300}, "300 and one more pattern": {[]impl.Pat{allOf("p", "p"), allOf("q", "q"), allOf("p", "r")}, twoKinds(12, 25), -1},
		"301, then those alike": {[]impl.Pat{allOf("p", "p"), allOf("q", "q"), one}, twoKinds(7, 43), -1}, "those alike first": {[]impl.Pat{allOf("p", "p"), one, one}, twoKinds(7, 43), 7}, "300, then those alike": {[]impl.Pat{allOf("p", "p"), allOf("q", "q"), one}, twoKinds(12, 25), 300},
	} {
		checkCount(t, what, c.g, alBgp(c.pats...), c.want)
		// An operation whose own rows are few changes nothing.
		want := min(c.want, 0)
		checkCount(t, what+", asked", c.g, alFilter(alBgp(c.pats...), exTerm(number(0, 0))), want)
		checkCount(t, what+", joined", c.g, alJoin(alRows("v"), alBgp(c.pats...)), want)
		checkCount(t, what+", taken away of nothing", c.g, alPair(impl.AlMinus, alRows("v"), alBgp(c.pats...)), want)
	}
}

// many is so many rows, of 60 triples; they bind w, x, y and z.
func many(count int) impl.Alg {
	five := []impl.Term{number(1, 0), number(2, 0), number(3, 0), number(4, 0), number(5, 0)}
	a := alJoin(alBgp(allOf("p", "x")), alRows("y", five[:count/60]...))
	for range count % 60 {
		a = alPair(impl.AlUnion, a, alRows("z", number(9, 0)))
	}
	return a
}

func TestTooManyRowsAtAnOperation(t *testing.T) {
	g := twoKinds(60, 0)
	one, zero, no := exTerm(number(1, 0)), exTerm(number(0, 0)), alRows("v")
	checkCount(t, "240", g, many(240), 240)
	checkCount(t, "299", g, many(299), 299)
	checkCount(t, "300", g, many(300), 300)
	checkCount(t, "301", g, many(301), -1)
	checkCount(t, "joined with none", g, alJoin(many(300), no), 0)
	checkCount(t, "joined with one", g, alJoin(many(300), alRows("v", number(1, 0))), 300)
	checkCount(t, "joined with two", g, alJoin(many(300), alRows("v", number(1, 0), number(1, 0))), -1)
	checkCount(t, "150 joined with two", g, alJoin(many(150), alRows("v", number(1, 0), number(1, 0))), 300)
	checkCount(t, "151 joined with two", g, alJoin(many(151), alRows("v", number(1, 0), number(1, 0))), -1)
	checkCount(t, "many pairs of which few agree", g, alJoin(many(300), alRows("x", number(0, 0), number(1, 0))), 10)
	checkCount(t, "300 and 300 of which few agree", g, alJoin(alFilter(many(300), one), alExtend(many(300), "x", exTerm(number(0, 0)))), 5)
	checkCount(t, "150 and 150", g, alPair(impl.AlUnion, many(150), many(150)), 300)
	checkCount(t, "150 and 151", g, alPair(impl.AlUnion, many(150), many(151)), -1)
	checkCount(t, "300 and none", g, alPair(impl.AlUnion, many(300), no), 300)
	checkCount(t, "none and 300", g, alPair(impl.AlUnion, no, many(300)), 300)
	checkCount(t, "300 and one", g, alPair(impl.AlUnion, many(300), alBgp()), -1)
	checkCount(t, "one and 300", g, alPair(impl.AlUnion, alBgp(), many(300)), -1)
	checkCount(t, "300 asked", g, alFilter(many(300), one), 300)
	checkCount(t, "300 told", g, alExtend(many(300), "v", one), 300)
	checkCount(t, "300 taken away", g, alPair(impl.AlMinus, many(300), many(300)), 0)
	checkCount(t, "none taken away", g, alPair(impl.AlMinus, many(300), no), 300)
	checkCount(t, "300 left", g, alLeft(many(300), no, one), 300)
	checkCount(t, "150 left with two each", g, alLeft(many(150), alRows("v", number(1, 0), number(2, 0)), one), 300)
	checkCount(t, "151 left with two each", g, alLeft(many(151), alRows("v", number(1, 0), number(2, 0)), one), -1)
	// Rows that AlLeft's Expr takes off have never been any.
	checkCount(t, "300 left with eight each, none true", g, alLeft(many(300), alRows("v", eightTerms()...), zero), 300)
	checkCount(t, "300 left with eight each, one true", g, alLeft(many(300), alRows("v", eightTerms()...), exOp(impl.OpSame, exVar("v"), one)), 300)
	checkCount(t, "300 left with eight each, two true for one", g, alLeft(many(300), alRows("v", eightTerms()...), exOp(impl.OpAnd, exOp(impl.OpLess, exVar("v"), exTerm(number(3, 0))), exOp(impl.OpAnd, exOp(impl.OpSame, exVar("x"), zero), exOp(impl.OpSame, exVar("y"), one)))), -1)
	checkCount(t, "299 left with eight each, two true for one", g, alLeft(alFilter(many(300), exOp(impl.OpOr, exVar("x"), exOp(impl.OpLess, exVar("y"), exTerm(number(5, 0))))), alRows("v", eightTerms()...), exOp(impl.OpAnd, exOp(impl.OpLess, exVar("v"), exTerm(number(3, 0))), exOp(impl.OpAnd, exOp(impl.OpSame, exVar("x"), zero), exOp(impl.OpSame, exVar("y"), one)))), 300)
	checkCount(t, "300 and 300 left, none true", g, alLeft(many(300), alExtend(alBgp(allOf("p", "r")), "q", one), zero), 300)
}

func TestTooManyRowsWithinAnOperation(t *testing.T) {
	g := twoKinds(60, 0)
	one, zero, no := exTerm(number(1, 0)), exTerm(number(0, 0)), alRows("v")
	for what, way := range map[string]func(impl.Alg) impl.Alg{
		"joined with none":                func(a impl.Alg) impl.Alg { return alJoin(a, no) },
		"none joined with it":             func(a impl.Alg) impl.Alg { return alJoin(no, a) },
		"none left with it":               func(a impl.Alg) impl.Alg { return alLeft(no, a, one) },
		"taken away of none":              func(a impl.Alg) impl.Alg { return alPair(impl.AlMinus, no, a) },
		"all is taken away":               func(a impl.Alg) impl.Alg { return alPair(impl.AlMinus, a, alRows("y", eightTerms()[:5]...)) },
		"one left, and none true":         func(a impl.Alg) impl.Alg { return alLeft(no, a, zero) },
		"none is asked for":               func(a impl.Alg) impl.Alg { return alFilter(a, zero) },
		"asked for twice":                 func(a impl.Alg) impl.Alg { return alFilter(alFilter(a, zero), one) },
		"gone, where binding fails":       func(a impl.Alg) impl.Alg { return alExtend(a, "y", zero) },
		"a union with none, joined":       func(a impl.Alg) impl.Alg { return alJoin(alPair(impl.AlUnion, no, a), no) },
		"taken away of none, deep within": func(a impl.Alg) impl.Alg { return alJoin(alBgp(), alPair(impl.AlMinus, no, alFilter(a, zero))) },
	} {
		checkCount(t, what+", 300", g, way(many(300)), 0)
		checkCount(t, what+", 301", g, way(many(301)), -1)
	}
	checkCount(t, "one row, taken away 300", g, alPair(impl.AlMinus, alBgp(), many(300)), 1)
	checkCount(t, "one row, taken away 301", g, alPair(impl.AlMinus, alBgp(), many(301)), -1)
	checkCount(t, "one row, left with 300, none true", g, alLeft(alBgp(), many(300), zero), 1)
	checkCount(t, "one row, left with 301, none true", g, alLeft(alBgp(), many(301), zero), -1)
}

// bindings is a solution by its variables' names.
type bindings map[string]impl.Term

func (b bindings) with(v string, x impl.Term) bindings {
	own := bindings{v: x}
	for w, y := range b {
		own[w] = y
	}
	return own
}

// and is nil where both do not agree.
func (b bindings) and(c bindings) bindings {
	own := bindings{}
	for v, x := range b {
		own[v] = x
	}
	for v, x := range c {
		if y, has := own[v]; has && !same(x, y) {
			return nil
		}
		own[v] = x
	}
	return own
}

// meantRows are those of an algebra by the document's words; false where there are too many.
func meantRows(g impl.Graph, a impl.Alg) ([]bindings, bool) {
	if a.Kind == impl.AlBgp {
		return meantFound(g, a.Pats)
	}
	var kids [2][]bindings
	for i, kid := range a.Kids {
		var ok bool
		if kids[i], ok = meantRows(g, kid); !ok {
			return nil, false
		}
	}
	var out []bindings
	switch a.Kind {
	case impl.AlJoin, impl.AlLeft, impl.AlMinus:
		for _, x := range kids[0] {
			out = append(out, meantPairs(a, x, kids[1])...)
		}
	case impl.AlUnion:
		out = append(kids[0], kids[1]...)
	case impl.AlRows:
		for _, x := range a.Terms {
			out = append(out, bindings{string(a.Var): x})
		}
	default:
		for _, x := range kids[0] {
			e := meantValue(a.Expr, x)
			switch old, has := x[string(a.Var)]; {
			case a.Kind == impl.AlFilter && meantTruth(e) == 1, a.Kind == impl.AlExtend && (e == nil || has && same(old, *e)):
				out = append(out, x)
			case a.Kind == impl.AlExtend && !has:
				out = append(out, x.with(string(a.Var), *e))
			}
		}
	}
	return out, len(out) <= 300
}

// meantPairs is what one row of the first Kid becomes.
func meantPairs(a impl.Alg, x bindings, second []bindings) []bindings {
	var out []bindings
	shared := false
	for _, y := range second {
		both := x.and(y)
		if both == nil {
			continue
		}
		shared = shared || len(both) < len(x)+len(y)
		if a.Kind == impl.AlJoin || a.Kind == impl.AlLeft && meantTruth(meantValue(a.Expr, both)) == 1 {
			out = append(out, both)
		}
	}
	if a.Kind == impl.AlLeft && len(out) == 0 || a.Kind == impl.AlMinus && !shared {
		out = []bindings{x}
	}
	return out
}

func meantFound(g impl.Graph, pats []impl.Pat) ([]bindings, bool) {
	rows := []bindings{{}}
	for _, p := range pats {
		var next []bindings
		for _, row := range rows {
			for _, t := range g.List {
				own := row
				for i, item := range []impl.Item{p.S, p.P, p.O} {
					x := []impl.Term{t.S, t.P, t.O}[i]
					switch {
					case own == nil || len(item.Var) == 0 && !same(item.Term, x):
						own = nil
					case len(item.Var) > 0:
						own = own.and(bindings{string(item.Var): x})
					}
				}
				if own != nil {
					next = append(next, own)
				}
			}
		}
		if rows = next; len(rows) > 300 {
			return nil, false
		}
	}
	return rows, true
}

// solsOf puts rows in order.
func solsOf(rows []bindings, list [][]byte) []impl.Sol {
	var out []impl.Sol
	for _, row := range rows {
		var s impl.Sol
		for _, v := range list {
			x, has := row[string(v)]
			s.Cells = append(s.Cells, impl.Cell{Has: has, T: x})
		}
		out = append(out, s)
	}
	sort.SliceStable(out, func(i, j int) bool { return isAheadOf(out[i], out[j]) })
	return out
}

func isAheadOf(a impl.Sol, b impl.Sol) bool {
	for i := range a.Cells {
		x, y := a.Cells[i], b.Cells[i]
		if x.Has != y.Has {
			return y.Has
		}
		if x.Has && !same(x.T, y.T) {
			return impl.Compare(x.T, y.T) < 0
		}
	}
	return false
}

func (m maker) poolItem(kinds ...int) impl.Item {
	if m.Intn(5) > 0 {
		return impl.Item{Var: m.variable()}
	}
	return impl.Item{Term: m.poolTerm(kinds...)}
}

func (m maker) poolGraph() impl.Graph {
	var list []impl.Triple
	for range m.Intn(40) {
		list = append(list, triple(m.poolTerm(0, 1), m.poolTerm(0), m.poolTerm(0, 1, 2, 3)))
	}
	return ascending(list)
}

// poolAlg makes algebras that may be, mostly, over few terms.
func (m maker) poolAlg(deep int) impl.Alg {
	a := impl.Alg{Kind: pick(m.Rand, 0, 1, 1, 2, 2, 3, 3, 4, 4, 5, 5, 6, 6, 7)}
	if deep <= 0 {
		a.Kind = pick(m.Rand, 0, 0, 7)
	}
	switch a.Kind {
	case impl.AlBgp:
		for range pick(m.Rand, 0, 1, 1, 1, 2, 2, 3) {
			a.Pats = append(a.Pats, impl.Pat{S: m.poolItem(0, 1), P: m.poolItem(0), O: m.poolItem(0, 1, 2, 3)})
		}
	case impl.AlLeft, impl.AlFilter:
		a.Expr = m.poolExpr(m.Intn(3))
	case impl.AlExtend:
		a.Expr, a.Var = m.poolExpr(m.Intn(3)), m.variable()
	case impl.AlRows:
		a.Var = m.variable()
		for range m.Intn(5) {
			a.Terms = append(a.Terms, m.poolTerm(0, 1, 2, 3))
		}
	}
	for range []int{0, 2, 2, 2, 2, 1, 1, 0}[a.Kind] {
		a.Kids = append(a.Kids, m.poolAlg(deep-1))
	}
	return a
}

func poolMaker(seed int64) maker {
	return maker{rand.New(rand.NewSource(seed)), []string{"a", "b", "c", "d"}, 0}
}

func TestSolutionsAsMeant(t *testing.T) {
	m := poolMaker(65)
	var kinds [8]int
	var tooMany, none, some, more int
	for range 12000 {
		m.names = pick(m.Rand, []string{"a", "b"}, []string{"a", "b", "c", "d"}, []string{"a", "b", "c", "d", "e", "f", "g"})
		g, a := m.poolGraph(), m.poolAlg(m.Intn(5))
		list := vars("d", "a", "x", "c", "b", "g", "f", "e")
		rows, fit := meantRows(g, a)
		want := "no"
		if fit {
			want = tellSols(solsOf(rows, list))
		}
		if got := tellSolved(impl.Solve(g, a, list)); got != want {
			t.Fatalf("%s of %s: %q, want %q", tellAlg(a), tellGraph(g), got, want)
		}
		switch {
		case !fit:
			tooMany++
		case len(rows) == 0:
			none++
		case len(rows) == 1:
			some++
		default:
			more++
			kinds[a.Kind]++
		}
	}
	if tooMany < 40 || none < 1000 || some < 1000 || more < 3000 {
		t.Errorf("%d, %d, %d, %d show too little", tooMany, none, some, more)
	}
	for kind, count := range kinds {
		if count < 100 {
			t.Errorf("%d of kind %d show too little", count, kind)
		}
	}
}

func TestJoinsAndUnionsDoNotHangOnTheirOrder(t *testing.T) {
	m := poolMaker(66)
	list := vars("a", "b", "c", "d", "e", "f", "g")
	rows, refused := 0, 0
	for range 4000 {
		m.names = pick(m.Rand, []string{"a", "b", "c", "d"}, []string{"a", "b", "c", "d", "e", "f", "g"})
		g, a, b, c := m.poolGraph(), m.poolAlg(m.Intn(3)), m.poolAlg(m.Intn(3)), m.poolAlg(m.Intn(2))
		for _, kind := range []int{impl.AlJoin, impl.AlUnion} {
			got, ok := impl.Solve(g, alPair(kind, a, b), list)
			if other := tellSolved(impl.Solve(g, alPair(kind, b, a), list)); other != tellSolved(got, ok) {
				t.Fatalf("kind %d of %s and %s over %s: %q, then %q", kind, tellAlg(a), tellAlg(b), tellGraph(g), tellSolved(got, ok), other)
			}
			rows += len(got)
			if !ok {
				refused++
			}
			// Of three it plays no part which two are joined first, where both ways tell true.
			one, oneOk := impl.Solve(g, alPair(kind, alPair(kind, a, b), c), list)
			two, twoOk := impl.Solve(g, alPair(kind, a, alPair(kind, c, b)), list)
			if oneOk && twoOk && tellSols(one) != tellSols(two) {
				t.Fatalf("kind %d of %s, %s and %s over %s: %q, then %q", kind, tellAlg(a), tellAlg(b), tellAlg(c), tellGraph(g), tellSols(one), tellSols(two))
			}
		}
	}
	if rows < 20000 || refused < 50 {
		t.Errorf("%d rows and %d refused show too little", rows, refused)
	}
}

func TestPatternsDoNotHangOnTheirOrder(t *testing.T) {
	m := poolMaker(67)
	list := vars("a", "b", "c", "d")
	seen, rows := 0, 0
	for range 6000 {
		g := m.poolGraph()
		var pats []impl.Pat
		for range 2 + m.Intn(3) {
			pats = append(pats, impl.Pat{S: m.poolItem(0, 1), P: m.poolItem(0), O: m.poolItem(0, 1, 2, 3)})
		}
		one, oneOk := impl.Solve(g, alBgp(pats...), list)
		joined := alBgp()
		for i, p := range pats {
			if i == 0 {
				joined = alBgp(p)
			} else {
				joined = alJoin(alBgp(p), joined)
			}
		}
		three, threeOk := impl.Solve(g, joined, list)
		m.Shuffle(len(pats), func(i, j int) { pats[i], pats[j] = pats[j], pats[i] })
		two, twoOk := impl.Solve(g, alBgp(pats...), list)
		if oneOk && twoOk && tellSols(one) != tellSols(two) || oneOk && threeOk && tellSols(one) != tellSols(three) {
			t.Fatalf("%s over %s: %q, %q, %q", tellAlg(alBgp(pats...)), tellGraph(g), tellSols(one), tellSols(two), tellSols(three))
		}
		if oneOk && twoOk && threeOk {
			seen++
			rows += len(one)
		}
	}
	if seen < 4000 || rows < 4000 {
		t.Errorf("%d with %d rows show too little", seen, rows)
	}
}

// counted tells how often there is each row.
func counted(list []impl.Sol) map[string]int {
	out := map[string]int{}
	for _, s := range list {
		out[tellSols([]impl.Sol{s})]++
	}
	return out
}

func isAmong(t *testing.T, what string, few []impl.Sol, all []impl.Sol) {
	t.Helper()
	there := counted(all)
	for row, count := range counted(few) {
		if count > there[row] {
			t.Fatalf("%s: %s is there %d times, was %d times", what, row, count, there[row])
		}
	}
}

func isGrownOf(grown impl.Sol, s impl.Sol) bool {
	for i, c := range s.Cells {
		if c.Has && tellCell(c) != tellCell(grown.Cells[i]) {
			return false
		}
	}
	return true
}

func TestWhatIsLeftAtLeastOnce(t *testing.T) {
	m := poolMaker(68)
	list := vars("a", "b", "c", "d")
	same, grown := 0, 0
	for range 6000 {
		g, a, b, e := m.poolGraph(), m.poolAlg(m.Intn(3)), m.poolAlg(m.Intn(3)), m.poolExpr(m.Intn(3))
		first, firstOk := impl.Solve(g, a, list)
		all, ok := impl.Solve(g, alLeft(a, b, e), list)
		if !firstOk || !ok {
			continue
		}
		if len(all) < len(first) {
			t.Fatalf("%s and %s over %s: %d of %d", tellAlg(a), tellAlg(b), tellGraph(g), len(all), len(first))
		}
		for _, s := range first {
			isThere := false
			for _, own := range all {
				isThere = isThere || isGrownOf(own, s)
			}
			if !isThere {
				t.Fatalf("%s and %s over %s: %v is gone", tellAlg(a), tellAlg(b), tellGraph(g), s)
			}
		}
		if tellSols(all) == tellSols(first) {
			same++
		} else {
			grown++
		}
	}
	if same < 1000 || grown < 300 {
		t.Errorf("%d and %d show too little", same, grown)
	}
}

func TestWhatIsTakenAwayOrAskedIsNoMore(t *testing.T) {
	m := poolMaker(69)
	list := vars("a", "b", "c", "d")
	var fewer, asked, askedNot, neither int
	for range 8000 {
		g, a, b, e := m.poolGraph(), m.poolAlg(m.Intn(3)), m.poolAlg(m.Intn(3)), m.poolExpr(m.Intn(4))
		all, ok := impl.Solve(g, a, list)
		if !ok {
			continue
		}
		if less, ok := impl.Solve(g, alPair(impl.AlMinus, a, b), list); ok {
			isAmong(t, "taken away", less, all)
			if len(less) < len(all) {
				fewer++
			}
		}
		yes, yesOk := impl.Solve(g, alFilter(a, e), list)
		no, noOk := impl.Solve(g, alFilter(a, ex(impl.ExNot, e)), list)
		if !yesOk || !noOk {
			t.Fatalf("%s is solved, but not if it is asked", tellAlg(a))
		}
		isAmong(t, "asked", yes, all)
		isAmong(t, "asked not", no, all)
		there := counted(no)
		for row := range counted(yes) {
			if there[row] > 0 {
				t.Fatalf("%s is both in what is asked and in what is asked not: %v", row, e)
			}
		}
		isAmong(t, "asked, or asked not", append(append([]impl.Sol{}, yes...), no...), all)
		asked, askedNot, neither = asked+len(yes), askedNot+len(no), neither+len(all)-len(yes)-len(no)
	}
	if fewer < 300 || asked < 1000 || askedNot < 1000 || neither < 1000 {
		t.Errorf("%d, %d, %d, %d show too little", fewer, asked, askedNot, neither)
	}
}

func TestSolutionsOfQueries(t *testing.T) {
	g := graphIn(t, `<ann> <age> 34 . <ann> <knows> <bob> . <ann> <knows> _:1 . <bob> <age> 20 . <bob> <name> "Bob" . _:1 <age> 61 . _:1 <name> "" .`)
	for body, want := range map[string]string{
		"?x <age> ?n . FILTER ( 30 < ?n )":                            "<ann> 34; _:1 61",
		"?x <age> ?n . OPTIONAL { ?x <name> ?t . FILTER LEN ?t }":     `<ann> 34 -; <bob> 20 "Bob"; _:1 61 -`,
		"?x <age> ?n . MINUS { ?y <knows> ?x . }":                     "<ann> 34 -",
		"UNION { ?x <name> ?t . } { ?x <age> ?n . FILTER NOT ?t }":    `<bob> "Bob" -; _:1 "" -`,
		"?x <knows> ?y . ?y <age> ?n . BIND ( ?n / 2 ) ?h":            "<ann> <bob> 20 10; <ann> _:1 61 30.5",
		"VALUES ?x { <bob> <ann> <zoe> } OPTIONAL { ?x <age> ?n . }":  "<ann> 34; <bob> 20; <zoe> -",
		"?x <knows> ?y . FILTER NOT BOUND ?z":                         "<ann> <bob> -; <ann> _:1 -",
		"?x <age> ?n . BIND IF ( ?n < 30 ) \"young\" <old> ?k":        `<ann> 34 <old>; <bob> 20 "young"; _:1 61 <old>`,
		"?x <age> ?n . BIND COAL { ?q ( ?n - 1 ) } ?m FILTER ?m":      "<ann> 34 - 33; <bob> 20 - 19; _:1 61 - 60",
		"MINUS { ?x <age> ?n . }":                                     "- -",
		"?x <knows> ?y . UNION { ?y <name> ?t . } { ?y <age> ?t . }":  `<ann> <bob> "Bob"; <ann> <bob> 20; <ann> _:1 ""; <ann> _:1 61`,
		"UNION { VALUES ?a { 1 } } { VALUES ?b { 1 } } FILTER ?a":     "1 -",
		"VALUES ?a { 1 2 } MINUS { VALUES ?a { 2 3 } }":               "1",
		"BIND 1 ?a OPTIONAL { BIND 2 ?a } OPTIONAL { BIND ?a ?b }":    "1 -",
		"OPTIONAL { VALUES ?a { 1 2 } FILTER ( ?a = 2 ) } BIND ?a ?b": "2 2",
	} {
		checkBody(t, g, body, want)
	}
}

func TestSolutionsAreNewMemory(t *testing.T) {
	m := poolMaker(70)
	g := graphIn(t, `<a> <p> "t" . <b> <p> "u" . <b> <q> "u" .`)
	list := vars("a", "b", "c")
	x, tt := alBgp(pattern("?a", name("p"), "?b")), exTerm(text("told"))
	for _, a := range []impl.Alg{
		x, alRows("a", text("x"), text("x")), alJoin(x, x), alJoin(x, alRows("c", name("n"))), alLeft(x, alBgp(pattern("?a", name("q"), "?c")), exTerm(number(1, 0))), alLeft(x, alRows("c"), exVar("a")), alPair(impl.AlUnion, x, x), alPair(impl.AlMinus, x, alRows("c", name("n"))),
		alFilter(x, exVar("b")), alExtend(x, "c", exVar("b")), alExtend(x, "c", tt), alExtend(x, "a", exVar("a")), alPair(impl.AlUnion, alExtend(x, "c", tt), alExtend(x, "c", tt)),
	} {
		a = withSpare(reflect.ValueOf(a)).Interface().(impl.Alg) // its own lists share none
		got, ok := impl.Solve(g, a, list)
		again, _ := impl.Solve(g, a, list)
		if !ok || len(got) == 0 {
			t.Fatal(tellAlg(a))
		}
		checkOwnMemory(t, g, a, list, got, again)
		before := tellSols(again)
		for _, s := range got {
			for i, c := range s.Cells {
				if len(c.T.Text) > 0 {
					c.T.Text[0] = 'Z'
				}
				s.Cells[i] = impl.Cell{}
			}
		}
		third, _ := impl.Solve(g, a, list)
		if tellSols(again) != before || tellSols(third) != before {
			t.Errorf("%s: %q, then %q", tellAlg(a), before, tellSols(third))
		}
	}
	for range 300 {
		g, a := m.poolGraph(), m.poolAlg(m.Intn(4))
		if got, ok := impl.Solve(g, a, vars("a", "b", "c", "d")); ok && len(got) < 60 {
			checkOwnMemory(t, got, g, vars("a"))
		}
	}
}

func TestSolveArgumentsAreLeftAlone(t *testing.T) {
	m := poolMaker(71)
	for range 600 {
		type all struct {
			G    impl.Graph
			A    impl.Alg
			Vars [][]byte
		}
		made := all{m.poolGraph(), m.poolAlg(m.Intn(4)), vars("a", "b", "c", "d")}
		given := withSpare(reflect.ValueOf(made)).Interface().(all)
		before := wholly(reflect.ValueOf(given))
		got := tellSolved(impl.Solve(given.G, given.A, given.Vars))
		if want := tellSolved(impl.Solve(made.G, made.A, made.Vars)); got != want {
			t.Fatalf("%s: %q, want %q: what lies behind its lists plays a part", tellAlg(made.A), got, want)
		}
		if wholly(reflect.ValueOf(given)) != before {
			t.Fatalf("%s over %s: an argument is not what it was", tellAlg(made.A), tellGraph(made.G))
		}
	}
}

func TestSolveIsTheSameEachTime(t *testing.T) {
	m := poolMaker(72)
	for range 100 {
		g, a := m.poolGraph(), m.poolAlg(4)
		first := tellSolved(impl.Solve(g, a, vars("a", "b", "c", "d")))
		for range 5 {
			if again := tellSolved(impl.Solve(g, a, vars("a", "b", "c", "d"))); again != first {
				t.Fatalf("%s: %q, then %q", tellAlg(a), first, again)
			}
		}
	}
}
