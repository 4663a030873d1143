package tests

import (
	"fmt"
	"math"
	"math/rand"
	"reflect"
	"strings"
	"testing"

	"loop.example/g00347/impl"
)

// rowsIn reads solutions as tellSols writes them; no text in them has a blank.
func rowsIn(s string) []impl.Sol {
	var out []impl.Sol
	if s == "" {
		return out
	}
	for _, part := range strings.Split(s, ";") {
		var own impl.Sol
		for _, cell := range strings.Fields(part) {
			switch cell {
			case "()":
			case "-":
				own.Cells = append(own.Cells, impl.Cell{})
			default:
				own.Cells = append(own.Cells, impl.Cell{Has: true, T: termIn(cell)})
			}
		}
		out = append(out, own)
	}
	return out
}

// tellTable is the variables, ":" and the rows; "no" where it is false.
func tellTable(x impl.Table, ok bool) string {
	all := strings.TrimSpace(tellVars(x.Vars) + ": " + tellSols(x.Rows))
	if !ok && len(x.Vars) == 0 && len(x.Rows) == 0 {
		return "no"
	}
	if !ok {
		return "no, but " + all
	}
	return all
}

func queryIn(t *testing.T, s string) impl.Query {
	t.Helper()
	q, code, at := impl.QueryRead([]byte(s))
	if code != impl.ReadWell {
		t.Fatalf("%s: read with %d at %d", s, code, at)
	}
	return q
}

// checkTable gives the solutions in several orders: each must lead to the same table.
func checkTable(t *testing.T, query string, sols string, want string) {
	t.Helper()
	q, list := queryIn(t, query), rowsIn(sols)
	for turn := range 2*len(list) + 1 {
		if got := tellTable(impl.Finish(q, list)); got != want {
			t.Errorf("%s of %s, turn %d: %q, want %q", query, sols, turn, got, want)
			return
		}
		if turn == len(list) {
			for i, j := 0, len(list)-1; i < j; i, j = i+1, j-1 {
				list[i], list[j] = list[j], list[i]
			}
		} else if len(list) > 0 {
			list = append(list[1:], list[0])
		}
	}
}

// checkTables lays the body behind WHERE.
func checkTables(t *testing.T, sols string, all map[string]string) {
	t.Helper()
	for query, want := range all {
		checkTable(t, strings.Replace(query, "WHERE", "WHERE { ?x ?y ?z . }", 1), sols, want)
	}
}

func hasNoTable(t *testing.T, what string, q impl.Query, sols []impl.Sol) {
	t.Helper()
	if got := tellTable(impl.Finish(q, sols)); got != "no" {
		t.Errorf("%s: %q", what, got)
	}
}

func TestFinishRefusesQueries(t *testing.T) {
	for what, lay := range map[string]func(*impl.Query){
		"Limit -2": func(q *impl.Query) { q.Limit = -2 }, "Limit 1000": func(q *impl.Query) { q.Limit = 1000 }, "the least Limit": func(q *impl.Query) { q.Limit = math.MinInt }, "the greatest Limit": func(q *impl.Query) { q.Limit = math.MaxInt },
		"Offset -1": func(q *impl.Query) { q.Offset = -1 }, "Offset 1000": func(q *impl.Query) { q.Offset = 1000 }, "the least Offset": func(q *impl.Query) { q.Offset = math.MinInt }, "the greatest Offset": func(q *impl.Query) { q.Offset = math.MaxInt },
		"Group without Sels": func(q *impl.Query) { q.Group = vars("x") }, "Sels not in Group": func(q *impl.Query) { q.Sels, q.Group = []impl.Sel{plain("y")}, vars("x") }, "plain beside counted": func(q *impl.Query) { q.Sels = []impl.Sel{plain("y"), count("x", "n")} },
		"Sels not in Body": func(q *impl.Query) { q.Sels = []impl.Sel{plain("z")} }, "Sels alike": func(q *impl.Query) { q.Sels = []impl.Sel{plain("x"), plain("x")} }, "another Fn": func(q *impl.Query) { q.Sels = []impl.Sel{{Fn: 3, Of: []byte("x"), Var: []byte("n")}} },
		"counted as what is there": func(q *impl.Query) { q.Sels = []impl.Sel{count("x", "y")} }, "a sum of none": func(q *impl.Query) { q.Sels = []impl.Sel{total("z", "n")} }, "Order of none": func(q *impl.Query) { q.Order = []impl.Key{up("z")} },
		"Order not in Sels": func(q *impl.Query) { q.Sels, q.Order = []impl.Sel{plain("x")}, []impl.Key{up("y")} }, "five of Order": func(q *impl.Query) { q.Order = []impl.Key{up("x"), up("x"), up("x"), up("x"), up("x")} }, "Ask and Limit 0": func(q *impl.Query) { q.Ask, q.Limit = true, 0 },
		"Ask and Distinct": func(q *impl.Query) { q.Ask, q.Distinct = true, true }, "Ask and Sels": func(q *impl.Query) { q.Ask, q.Sels = true, []impl.Sel{plain("x")} }, "an element of no kind": func(q *impl.Query) { q.Body = append(q.Body, impl.Elem{Kind: 7}) },
		"nine variables": func(q *impl.Query) { q.Body = has("a", "b", "c", "d", "e", "f", "g", "h", "i") }, "five of Group": func(q *impl.Query) {
			q.Body, q.Sels, q.Group = has("a", "b", "c", "d", "e"), []impl.Sel{plain("a")}, vars("a", "b", "c", "d", "e")
		},
	} {
		q := selectAll(has("x", "y")...)
		lay(&q)
		if impl.QueryOk(q) {
			t.Fatal(what)
		}
		for _, sols := range []string{"", "()", "(); ()", "1 2", "1 2; 3 4", "1 2 3 4 5", "1 2 3 4 5 6 7 8 9"} {
			hasNoTable(t, what+" and "+sols, q, rowsIn(sols))
		}
	}
	hasNoTable(t, "nothing but a Limit", impl.Query{Limit: -3}, nil)
	// Limit 0 and no body: the zero value may be.
	if got := tellTable(impl.Finish(impl.Query{}, rowsIn("()"))); got != ":" {
		t.Error(got)
	}
}

// numbered are so many unlike solutions over two variables.
func numbered(count int) []impl.Sol {
	var out []impl.Sol
	for i := range count {
		out = append(out, sol(number(count-i, 0), number(i%7, 0)))
	}
	return out
}

func TestHowManySolutions(t *testing.T) {
	for _, text := range []string{"ASK { ?x <p> ?y . }", "SELECT * WHERE { ?x <p> ?y . }", "SELECT DISTINCT ?y WHERE { ?x <p> ?y . }", "SELECT ( COUNT ?x AS ?n ) WHERE { ?x <p> ?y . }", "SELECT ?y ( SUM ?x AS ?n ) WHERE { ?x <p> ?y . } GROUP ?y", "SELECT ?x WHERE { ?x <p> ?y . } LIMIT 1 OFFSET 299", "SELECT ?x WHERE { ?x <p> ?y . } LIMIT 0"} {
		q := queryIn(t, text)
		for _, c := range []struct {
			count int
			want  bool
		}{{0, true}, {1, true}, {299, true}, {300, true}, {301, false}, {302, false}, {5000, false}} {
			x, ok := impl.Finish(q, numbered(c.count))
			if ok != c.want || !ok && tellTable(x, ok) != "no" {
				t.Errorf("%s of %d: %v, %s", text, c.count, ok, tellTable(x, ok))
			}
		}
	}
	x, ok := impl.Finish(queryIn(t, "SELECT * WHERE { ?x <p> ?y . }"), numbered(300))
	if !ok || len(x.Rows) != 300 || tellSols(x.Rows[:2]) != "1 5; 2 4" || tellSols(x.Rows[299:]) != "300 0" {
		t.Error(ok, tellSols(x.Rows))
	}
	// Too many are too many, even if they are all alike.
	alike := make([]impl.Sol, 301)
	hasNoTable(t, "301 without cells", ask(), alike)
	hasNoTable(t, "301 without cells, distinct", impl.Query{Distinct: true, Limit: -1}, alike)
	if got := tellTable(impl.Finish(impl.Query{Distinct: true, Limit: -1}, alike[:300])); got != ": ()" {
		t.Error(got)
	}
}

// checkNoSolution lays one that is none among others, for several queries.
func checkNoSolution(t *testing.T, what string, s impl.Sol) {
	t.Helper()
	good := rowsIn("1 2; 3 -; - -")
	for _, text := range []string{"ASK { ?x <p> ?y . }", "SELECT * WHERE { ?x <p> ?y . }", "SELECT ?x WHERE { ?x <p> ?y . }", "SELECT DISTINCT ?y WHERE { ?x <p> ?y . } LIMIT 0", "SELECT ( COUNT ?x AS ?n ) WHERE { ?x <p> ?y . }", "SELECT ( SUM ?y AS ?n ) WHERE { ?x <p> ?y . } GROUP ?x OFFSET 999"} {
		q := queryIn(t, text)
		hasNoTable(t, what+" alone, "+text, q, []impl.Sol{s})
		for at := range good {
			list := append([]impl.Sol{}, good...)
			list[at] = s
			hasNoTable(t, fmt.Sprint(what, " at ", at, ", ", text), q, list)
		}
		if x, ok := impl.Finish(q, good); !ok {
			t.Fatal(text, x)
		}
	}
}

func TestFinishRefusesSolutions(t *testing.T) {
	five := number(5, 0)
	for what, s := range map[string]impl.Sol{
		"no cells": {}, "one too few": sol(five), "an empty one alone": sol(nil), "one too many": sol(five, five, five), "an empty one too many": sol(five, five, nil), "three empty ones": sol(nil, nil, nil), "many": {Cells: make([]impl.Cell, 1000)},
		"Has without a term": {Cells: []impl.Cell{{Has: true}, {}}}, "Has without a term, behind": {Cells: []impl.Cell{{Has: true, T: five}, {Has: true}}},
	} {
		checkNoSolution(t, what, s)
	}
	for _, x := range badTerms() {
		checkNoSolution(t, "Has and "+tell(x), impl.Sol{Cells: []impl.Cell{{Has: true, T: x}, {}}})
		checkNoSolution(t, "behind, Has and "+tell(x), impl.Sol{Cells: []impl.Cell{{Has: true, T: five}, {Has: true, T: x}}})
		if !isZero(x) {
			checkNoSolution(t, "without Has, but "+tell(x), impl.Sol{Cells: []impl.Cell{{}, {T: x}}})
		}
	}
	for _, x := range goodTerms() {
		checkNoSolution(t, "without Has, but "+tell(x), impl.Sol{Cells: []impl.Cell{{T: x}, {}}})
	}
	// An empty list is what nil is.
	got := tellTable(impl.Finish(queryIn(t, "SELECT * WHERE { ?x <p> ?y . }"), []impl.Sol{{Cells: []impl.Cell{{T: impl.Term{Text: []byte{}}}, {Has: true, T: impl.Term{Kind: impl.TmNum, N: 5, Text: []byte{}}}}}}))
	if got != "x y: - 5" {
		t.Error(got)
	}
}

func TestTablesOfAsk(t *testing.T) {
	for _, c := range [][3]string{
		{"{ ?x <p> ?y . }", "", "x y:"}, {"{ ?x <p> ?y . }", "2 1", "x y: 2 1"}, {"{ ?x <p> ?y . }", `2 1; - 5; 1 -; "" 1; 2 1; <z> <a>; 1 7; _:1 -; - -; 1 -`, `x y: - -; - 5; <z> <a>; _:1 -; "" 1; 1 -; 1 -; 1 7; 2 1; 2 1`},
		{"{ ?y <p> ?x . FILTER ?a }", "2 1 -; 1 2 -; 1 1 <a>", "y x a: 1 1 <a>; 1 2 -; 2 1 -"}, {"{ }", "", ":"}, {"{ }", "()", ": ()"}, {"{ }", "(); (); ()", ": (); (); ()"},
	} {
		checkTable(t, "ASK "+c[0], c[1], c[2])
		checkTable(t, "SELECT * WHERE "+c[0], c[1], c[2])
	}
}

func TestTablesOfPlainSels(t *testing.T) {
	checkTables(t, "2 1 <b>; 1 - <a>; 2 0 -; 1 - <a>; - 7 <c>", map[string]string{
		"SELECT * WHERE": "x y z: - 7 <c>; 1 - <a>; 1 - <a>; 2 0 -; 2 1 <b>", "SELECT ?x ?y ?z WHERE": "x y z: - 7 <c>; 1 - <a>; 1 - <a>; 2 0 -; 2 1 <b>",
		// By the order of what is told, not by that of the solutions.
		"SELECT ?z ?y ?x WHERE": "z y x: - 0 2; <a> - 1; <a> - 1; <b> 1 2; <c> 7 -", "SELECT ?y ?x WHERE": "y x: - 1; - 1; 0 2; 1 2; 7 -", "SELECT ?x WHERE": "x: -; 1; 1; 2; 2", "SELECT ?z WHERE": "z: -; <a>; <a>; <b>; <c>",
		"SELECT ?z ?x WHERE": "z x: - 2; <a> 1; <a> 1; <b> 2; <c> -",
	})
	checkTables(t, "", map[string]string{"SELECT * WHERE": "x y z:", "SELECT ?z ?x WHERE": "z x:", "SELECT DISTINCT ?y WHERE": "y:"})
	// MaxVars of them, and the variables in the order of the body.
	checkTable(t, "SELECT ?a ?b ?c ?d ?e ?f ?g ?h WHERE { ?h ?g ?f . ?e ?d ?c . ?b ?a ?b . }", "1 2 3 4 5 6 7 8; - - - - - - - -", "a b c d e f g h: - - - - - - - -; 8 7 6 5 4 3 2 1")
	checkTable(t, "SELECT * WHERE { ?h ?g ?f . ?e ?d ?c . ?b ?a ?b . }", "1 2 3 4 5 6 7 8", "h g f e d c b a: 1 2 3 4 5 6 7 8")
	// Names that begin alike are unlike.
	checkTable(t, "SELECT ?xx ?x WHERE { ?x ?xxx ?xx . }", "1 3 2", "xx x: 2 1")
}

func TestCountsAndSumsOfAll(t *testing.T) {
	all := "SELECT ( COUNT ?x AS ?a ) ( SUM ?x AS ?b ) ( COUNT ?y AS ?c ) ( SUM ?y AS ?d ) ( COUNT ?z AS ?e ) ( SUM ?z AS ?f ) WHERE"
	for sols, want := range map[string]string{
		"": "0 0 0 0 0 0", "- - -": "0 0 0 0 0 0", "- - -; - - -": "0 0 0 0 0 0", "1 2 3": "1 1 1 2 1 3", "1 - 3; 4 - -; - - -": "2 5 0 0 1 3", "1 2 3; 1 2 3": "2 2 2 4 2 6",
		// What is no number is counted, but not summed; not even beside numbers.
		"<a> 1 1; <a> 2 1": "2 - 2 3 2 2", `_:1 "" "7"; 1 1 1`: "2 - 2 - 2 -", "<a> - -; - <a> -; 5 6 7": "2 - 2 - 1 7", `"0" 0 -; - - -`: "1 - 1 0 0 0",
		// Below 0, to 0, unlike scales; noughts behind the point go.
		"-1 0.5 0.000001; 1 0.5 -0.25; -7 1.25 3": "3 -7 3 2.25 3 2.750001", "0.1 0.9 -0.5; 0.2 0.1 0.5": "2 0.3 2 1 2 0", "1000000000000000 -1000000000000000 999999999.999999": "1 1000000000000000 1 -1000000000000000 1 999999999.999999",
	} {
		checkTables(t, sols, map[string]string{all: "a b c d e f: " + want})
	}
	checkTables(t, "1 - -; 2 - -", map[string]string{"SELECT ( COUNT ?x AS ?n ) WHERE": "n: 2", "SELECT ( SUM ?x AS ?n ) WHERE": "n: 3", "SELECT ( SUM ?y AS ?b ) ( COUNT ?y AS ?a ) WHERE": "b a: 0 0", "SELECT ( SUM ?x AS ?b ) ( SUM ?x AS ?a ) WHERE": "b a: 3 3"})
}

func TestSumsThatAreRefused(t *testing.T) {
	query := "SELECT ( SUM ?y AS ?n ) ( COUNT ?y AS ?m ) WHERE { ?x <p> ?y . }"
	const most = "1000000000000000"
	for sols, want := range map[string]string{
		"1 " + most: most + " 1", "1 -" + most: "-" + most + " 1", "1 " + most + "; 2 0": most + " 2",
		// At the end.
		"1 " + most + "; 2 1": "- 2", "1 -" + most + "; 2 -1": "- 2", "1 1; 2 " + most: "- 2", "1 " + most + "; 2 " + most: "- 2",
		// In the midst: what comes behind does not mend it; ahead of it, it fits.
		"1 " + most + "; 2 1; 3 -1": "- 3", "1 " + most + "; 2 -1; 3 1": most + " 3", "1 -1; 2 1; 3 " + most: most + " 3", "1 1; 2 -1; 3 " + most: most + " 3", "1 1; 2 " + most + "; 3 -1": "- 3", "1 -" + most + "; 2 -1; 3 1": "- 3",
		// In order of the solutions, which the cells ahead decide; alike ones by the cell itself, then.
		"1 " + most + "; 1 1; 1 -1": most + " 3", "- " + most + "; 1 1; 2 -1": "- 3", "1 -1; - 1; 2 " + most: most + " 3",
		// With a scale a number is brought to it first.
		"1 " + most + "; 2 0.5": "- 2", "1 " + most + "; 2 0.000001": "- 2", "1 0.5; 2 " + most: "- 2", "1 999999999.999999; 2 0.000001": "1000000000 2", "1 1000000000; 2 0.000001": "- 2", "1 999999999; 2 0.999999": "999999999.999999 2", "1 99999999999999.9; 2 0.1": "100000000000000 2", "1 " + most + "; 2 0.1; 3 -0.1": "- 3", "1 0.1; 2 -0.1; 3 " + most: most + " 3",
		// What is no number lies ahead, in the midst, behind.
		"1 <a>; 2 1; 3 1": "- 3", "1 1; 2 <a>; 3 1": "- 3", "1 1; 2 1; 3 <a>": "- 3", `1 ""`: "- 1", "1 _:0": "- 1", "1 1; 2 -; 3 1": "2 2", "1 -; 2 <a>": "- 1", "1 -; 2 " + most + "; 3 -; 4 1; 5 -": "- 2",
	} {
		checkTable(t, query, sols, "n m: "+want)
	}
	// In each group by itself.
	checkTable(t, "SELECT ?x ( SUM ?y AS ?n ) WHERE { ?x <p> ?y . } GROUP ?x", "1 "+most+"; 1 1; 2 5; 2 6; 3 <a>; 3 1; 4 -; - 7", "x n: - 7; 1 -; 2 11; 3 -; 4 0")
}

func TestTablesOfGroups(t *testing.T) {
	checkTables(t, "2 <b> 5; 1 <a> 7; 2 <a> -; 1 <a> 7; - <b> 1; 2 <b> 6; - <b> -; - - 3", map[string]string{
		"SELECT ?x ( COUNT ?z AS ?n ) ( SUM ?z AS ?s ) WHERE GROUP ?x": "x n s: - 2 4; 1 2 14; 2 2 11", "SELECT ?y ( COUNT ?z AS ?n ) ( SUM ?z AS ?s ) WHERE GROUP ?y": "y n s: - 1 3; <a> 2 14; <b> 3 12",
		"SELECT ?y ?x ( COUNT ?z AS ?n ) WHERE GROUP ?x ?y": "y x n: - - 1; <a> 1 2; <a> 2 0; <b> - 1; <b> 2 2", "SELECT ?x ?y ( SUM ?z AS ?n ) WHERE GROUP ?y ?x": "x y n: - - 3; - <b> 1; 1 <a> 14; 2 <a> 0; 2 <b> 11",
		// Plain ones alone, and fewer than Group: rows that are alike stay.
		"SELECT ?x WHERE GROUP ?x": "x: -; 1; 2", "SELECT ?x WHERE GROUP ?x ?y": "x: -; -; 1; 2; 2", "SELECT ?y WHERE GROUP ?x ?y": "y: -; <a>; <a>; <b>; <b>", "SELECT DISTINCT ?x WHERE GROUP ?x ?y": "x: -; 1; 2",
		"SELECT ?x ?y ?z WHERE GROUP ?z ?x ?y": "x y z: - - 3; - <b> -; - <b> 1; 1 <a> 7; 2 <a> -; 2 <b> 5; 2 <b> 6",
		// Counted alone: what is told first comes first.
		"SELECT ( COUNT ?z AS ?n ) WHERE GROUP ?x": "n: 2; 2; 2", "SELECT ( COUNT ?z AS ?n ) ?y WHERE GROUP ?y": "n y: 1 -; 2 <a>; 3 <b>", "SELECT ( SUM ?z AS ?n ) ?y WHERE GROUP ?y": "n y: 3 -; 12 <b>; 14 <a>", "SELECT DISTINCT ( COUNT ?z AS ?n ) WHERE GROUP ?x": "n: 2",
		// Of what is grouped by: an empty one is a group, too, but not counted.
		"SELECT ?x ( COUNT ?x AS ?n ) ( SUM ?x AS ?s ) WHERE GROUP ?x": "x n s: - 0 0; 1 2 2; 2 3 6", "SELECT ?y ( COUNT ?y AS ?n ) ( SUM ?y AS ?s ) WHERE GROUP ?y": "y n s: - 0 0; <a> 3 -; <b> 4 -",
	})
	// Without solutions there is no group, if there are Group.
	checkTables(t, "", map[string]string{"SELECT ?x WHERE GROUP ?x": "x:", "SELECT ( COUNT ?x AS ?n ) WHERE GROUP ?x": "n:", "SELECT ( COUNT ?x AS ?n ) WHERE": "n: 0", "SELECT ?x ( SUM ?y AS ?n ) WHERE GROUP ?x ?y ?z": "x n:", "SELECT ( SUM ?y AS ?n ) WHERE ORDER ?n LIMIT 1": "n: 0", "SELECT ( SUM ?y AS ?n ) WHERE OFFSET 1": "n:"})
	checkTables(t, "- - -; - - -", map[string]string{"SELECT ?x ( COUNT ?x AS ?n ) ( SUM ?y AS ?s ) WHERE GROUP ?x": "x n s: - 0 0", "SELECT ?x ?y WHERE GROUP ?z ?y ?x": "x y: - -"})
}

func TestGroupsByFour(t *testing.T) {
	body := " WHERE { ?a ?b ?c . ?d ?e ?e . } GROUP "
	sols := "1 1 1 1 5; 1 1 1 1 6; 1 1 1 - 7; 1 1 - 1 8; 1 - 1 1 9; - 1 1 1 10; 1 1 1 2 11; 2 1 1 1 12; 1 1 1 - 13; - - - - 14; - - - - -"
	checkTable(t, "SELECT ?a ?b ?c ?d ( COUNT ?e AS ?n ) ( SUM ?e AS ?s )"+body+"?a ?b ?c ?d", sols, "a b c d n s: - - - - 1 14; - 1 1 1 1 10; 1 - 1 1 1 9; 1 1 - 1 1 8; 1 1 1 - 2 20; 1 1 1 1 2 11; 1 1 1 2 1 11; 2 1 1 1 1 12")
	checkTable(t, "SELECT ?d ?a ( SUM ?e AS ?s )"+body+"?d ?c ?b ?a", sols, "d a s: - - 14; - 1 20; 1 - 10; 1 1 8; 1 1 9; 1 1 11; 1 2 12; 2 1 11")
	checkTable(t, "SELECT ( COUNT ?e AS ?n )"+body+"?b ?c ?d ?e", sols, "n: 0; 1; 1; 1; 1; 1; 1; 1; 1; 1; 1")
	// Three of the same terms at other places are other groups.
	checkTable(t, "SELECT ( COUNT ?e AS ?n ) ?a ?b ?c"+body+"?a ?b ?c", "1 2 - - 1; 1 - 2 - 1; - 1 2 - 1; 2 1 - - 1; 1 2 - <a> 1", "n a b c: 1 - 1 2; 1 1 - 2; 1 2 1 -; 2 1 2 -")
}

func TestGroupsOfEachTerm(t *testing.T) {
	q := queryIn(t, "SELECT ?x ( COUNT ?x AS ?n ) ( SUM ?y AS ?s ) WHERE { ?x <p> ?y . } GROUP ?x")
	var sols []impl.Sol
	for i, x := range goodTerms() {
		for range 1 + i%3 {
			sols = append(sols, sol(x, number(1, 0)))
		}
	}
	rand.New(rand.NewSource(101)).Shuffle(len(sols), func(i, j int) { sols[i], sols[j] = sols[j], sols[i] })
	got, ok := impl.Finish(q, sols)
	if !ok || len(got.Rows) != len(goodTerms()) {
		t.Fatal(ok, len(got.Rows))
	}
	for i, x := range goodTerms() {
		if want := tellSols([]impl.Sol{sol(x, number(1+i%3, 0), number(1+i%3, 0))}); tellSols(got.Rows[i:i+1]) != want {
			t.Errorf("%s, want %s", tellSols(got.Rows[i:i+1]), want)
		}
	}
	// Terms that look alike in part are in groups of their own: a name, a text and a number.
	checkTable(t, "SELECT ?x ?y ( COUNT ?x AS ?n ) WHERE { ?x <p> ?y . } GROUP ?x ?y", `<a> "a"; "a" <a>; "<a>" "a"; "a" "<a>"; 1 "1"; "1" 1; "-" -; - "-"; "" -; - ""; _:1 1; 1 _:1; "_:1" 1; 0.1 1; 0 0.1`, `x y n: - "" 0; - "-" 0; <a> "a" 1; _:1 1 1; "" - 1; "-" - 1; "1" 1 1; "<a>" "a" 1; "_:1" 1 1; "a" <a> 1; "a" "<a>" 1; 0 0.1 1; 0.1 1 1; 1 _:1 1; 1 "1" 1`)
}

func TestOrderOfTables(t *testing.T) {
	checkTables(t, "2 <b> 5; 1 <a> 7; 2 - 7; 1 <b> -; - <a> 5; 1 <a> 6", map[string]string{
		"SELECT * WHERE": "x y z: - <a> 5; 1 <a> 6; 1 <a> 7; 1 <b> -; 2 - 7; 2 <b> 5", "SELECT * WHERE ORDER ?x": "x y z: - <a> 5; 1 <a> 6; 1 <a> 7; 1 <b> -; 2 - 7; 2 <b> 5", "SELECT * WHERE ORDER - ?x": "x y z: 2 - 7; 2 <b> 5; 1 <a> 6; 1 <a> 7; 1 <b> -; - <a> 5",
		"SELECT * WHERE ORDER ?y": "x y z: 2 - 7; - <a> 5; 1 <a> 6; 1 <a> 7; 1 <b> -; 2 <b> 5", "SELECT * WHERE ORDER - ?y": "x y z: 1 <b> -; 2 <b> 5; - <a> 5; 1 <a> 6; 1 <a> 7; 2 - 7", "SELECT * WHERE ORDER ?z": "x y z: 1 <b> -; - <a> 5; 2 <b> 5; 1 <a> 6; 1 <a> 7; 2 - 7", "SELECT * WHERE ORDER - ?z": "x y z: 1 <a> 7; 2 - 7; 1 <a> 6; - <a> 5; 2 <b> 5; 1 <b> -",
		// Several keys: the first that tells them apart counts, each with its own way round.
		"SELECT * WHERE ORDER ?z - ?x": "x y z: 1 <b> -; 2 <b> 5; - <a> 5; 1 <a> 6; 2 - 7; 1 <a> 7", "SELECT * WHERE ORDER - ?z - ?x": "x y z: 2 - 7; 1 <a> 7; 1 <a> 6; 2 <b> 5; - <a> 5; 1 <b> -", "SELECT * WHERE ORDER - ?y ?z": "x y z: 1 <b> -; 2 <b> 5; - <a> 5; 1 <a> 6; 1 <a> 7; 2 - 7", "SELECT * WHERE ORDER - ?x - ?y - ?z": "x y z: 2 <b> 5; 2 - 7; 1 <b> -; 1 <a> 7; 1 <a> 6; - <a> 5",
		// A key that comes again decides nothing.
		"SELECT * WHERE ORDER ?z - ?z ?z - ?x": "x y z: 1 <b> -; 2 <b> 5; - <a> 5; 1 <a> 6; 2 - 7; 1 <a> 7", "SELECT * WHERE ORDER - ?x ?x ?x ?x": "x y z: 2 - 7; 2 <b> 5; 1 <a> 6; 1 <a> 7; 1 <b> -; - <a> 5",
		// Like keys: by the cells of what is told, in its order.
		"SELECT ?z ?y ?x WHERE ORDER - ?x": "z y x: 5 <b> 2; 7 - 2; - <b> 1; 6 <a> 1; 7 <a> 1; 5 <a> -", "SELECT ?z ?y WHERE ORDER ?y": "z y: 7 -; 5 <a>; 6 <a>; 7 <a>; - <b>; 5 <b>", "SELECT ?y ?z WHERE ORDER - ?z": "y z: - 7; <a> 7; <a> 6; <a> 5; <b> 5; <b> -", "SELECT ?x WHERE ORDER - ?x": "x: 2; 2; 1; 1; 1; -",
		// By what is counted or summed.
		"SELECT ?x ( COUNT ?z AS ?n ) WHERE GROUP ?x ORDER ?n": "x n: - 1; 1 2; 2 2", "SELECT ?x ( COUNT ?z AS ?n ) WHERE GROUP ?x ORDER - ?n": "x n: 1 2; 2 2; - 1", "SELECT ?x ( COUNT ?z AS ?n ) WHERE GROUP ?x ORDER - ?n - ?x": "x n: 2 2; 1 2; - 1", "SELECT ?x ( SUM ?z AS ?n ) WHERE GROUP ?x ORDER - ?n": "x n: 1 13; 2 12; - 5",
		"SELECT ?x ( SUM ?y AS ?n ) WHERE GROUP ?x ORDER ?n": "x n: - -; 1 -; 2 -", "SELECT ?y ( SUM ?x AS ?n ) ( COUNT ?x AS ?m ) WHERE GROUP ?y ORDER - ?m - ?n": "y n m: <b> 3 2; <a> 2 2; - 2 1", "SELECT ( COUNT ?z AS ?n ) WHERE GROUP ?x ORDER - ?n": "n: 2; 2; 1",
	})
	// A sum that is empty is ahead of all, and behind all if it is Down.
	checkTables(t, "1 1 -; 2 <a> -; 3 -1 -; 4 - -", map[string]string{"SELECT ?x ( SUM ?y AS ?n ) WHERE GROUP ?x ORDER ?n": "x n: 2 -; 3 -1; 4 0; 1 1", "SELECT ?x ( SUM ?y AS ?n ) WHERE GROUP ?x ORDER - ?n": "x n: 1 1; 4 0; 3 -1; 2 -"})
}

func TestOrderOfEachTerm(t *testing.T) {
	q, turned := queryIn(t, "SELECT ?y ?x WHERE { ?x <p> ?y . } ORDER ?x"), queryIn(t, "SELECT ?y ?x WHERE { ?x <p> ?y . } ORDER - ?x")
	all := []any{nil}
	for _, x := range goodTerms() {
		all = append(all, x)
	}
	var sols []impl.Sol
	var want, wantTurned []string
	for i, x := range all {
		sols = append(sols, sol(x, number(i*7%5, 0)))
		row := tellSols([]impl.Sol{sol(number(i*7%5, 0), x)})
		want, wantTurned = append(want, row), append([]string{row}, wantTurned...)
	}
	source := rand.New(rand.NewSource(102))
	for range 20 {
		source.Shuffle(len(sols), func(i, j int) { sols[i], sols[j] = sols[j], sols[i] })
		if got := tellTable(impl.Finish(q, sols)); got != "y x: "+strings.Join(want, "; ") {
			t.Error(got)
		}
		if got := tellTable(impl.Finish(turned, sols)); got != "y x: "+strings.Join(wantTurned, "; ") {
			t.Error(got)
		}
	}
}

func TestDistinctTables(t *testing.T) {
	checkTables(t, "2 <b> 5; 1 <a> 7; 2 - 7; 1 <a> 7; - - -; 1 <b> 7; 2 - 7; - - -; 2 - 7", map[string]string{
		"SELECT DISTINCT * WHERE": "x y z: - - -; 1 <a> 7; 1 <b> 7; 2 - 7; 2 <b> 5", "SELECT DISTINCT ?x WHERE": "x: -; 1; 2", "SELECT DISTINCT ?z ?x WHERE": "z x: - -; 5 2; 7 1; 7 2", "SELECT DISTINCT ?y WHERE": "y: -; <a>; <b>",
		"SELECT ?x WHERE": "x: -; -; 1; 1; 1; 2; 2; 2; 2",
		// With Order, also where those that are alike have like keys with others between.
		"SELECT DISTINCT * WHERE ORDER - ?z": "x y z: 1 <a> 7; 1 <b> 7; 2 - 7; 2 <b> 5; - - -", "SELECT DISTINCT ?x ?z WHERE ORDER ?z": "x z: - -; 2 5; 1 7; 2 7", "SELECT DISTINCT ?x ?z WHERE ORDER - ?z - ?x": "x z: 2 7; 1 7; 2 5; - -", "SELECT DISTINCT ?y ?x WHERE ORDER - ?y ?x": "y x: <b> 1; <b> 2; <a> 1; - -; - 2",
		// With groups.
		"SELECT DISTINCT ( COUNT ?z AS ?n ) WHERE GROUP ?x ?y": "n: 0; 1; 2; 3", "SELECT ( COUNT ?z AS ?n ) WHERE GROUP ?x ?y": "n: 0; 1; 1; 2; 3", "SELECT DISTINCT ?x ( COUNT ?y AS ?n ) WHERE GROUP ?x ?y ORDER - ?n": "x n: 1 2; 1 1; 2 1; - 0; 2 0", "SELECT DISTINCT ( SUM ?x AS ?n ) WHERE": "n: 11",
		// Those that are alike go ahead of Offset and Limit; groups count them all.
		"SELECT DISTINCT ?x WHERE LIMIT 2": "x: -; 1", "SELECT DISTINCT ?x WHERE OFFSET 2": "x: 2", "SELECT DISTINCT ?x WHERE LIMIT 1 OFFSET 1": "x: 1", "SELECT DISTINCT ?x ( COUNT ?x AS ?n ) WHERE GROUP ?x": "x n: - 0; 1 3; 2 4",
	})
	checkTables(t, "", map[string]string{"SELECT DISTINCT * WHERE": "x y z:"})
	checkTable(t, "SELECT DISTINCT * WHERE { }", "(); ()", ": ()")
	checkTable(t, "SELECT DISTINCT * WHERE { }", "", ":")
	// An empty text, an empty cell and 0 are unlike.
	checkTable(t, "SELECT DISTINCT ?x WHERE { ?x <p> ?x . }", `""; -; 0; ""; -; 0; "0"; 0.1; <a>; "a"`, `x: -; <a>; ""; "0"; "a"; 0; 0.1`)
}

func TestOffsetAndLimitOfTables(t *testing.T) {
	sols := "3 - -; 1 - -; 5 - -; 2 - -; 4 - -"
	checkTables(t, sols, map[string]string{
		"SELECT ?x WHERE": "x: 1; 2; 3; 4; 5", "SELECT ?x WHERE OFFSET 1": "x: 2; 3; 4; 5", "SELECT ?x WHERE OFFSET 4": "x: 5", "SELECT ?x WHERE OFFSET 5": "x:", "SELECT ?x WHERE OFFSET 6": "x:", "SELECT ?x WHERE OFFSET 999": "x:",
		"SELECT ?x WHERE LIMIT 0": "x:", "SELECT ?x WHERE LIMIT 1": "x: 1", "SELECT ?x WHERE LIMIT 4": "x: 1; 2; 3; 4", "SELECT ?x WHERE LIMIT 5": "x: 1; 2; 3; 4; 5", "SELECT ?x WHERE LIMIT 6": "x: 1; 2; 3; 4; 5", "SELECT ?x WHERE LIMIT 999": "x: 1; 2; 3; 4; 5",
		"SELECT ?x WHERE LIMIT 2 OFFSET 2": "x: 3; 4", "SELECT ?x WHERE LIMIT 2 OFFSET 3": "x: 4; 5", "SELECT ?x WHERE LIMIT 2 OFFSET 4": "x: 5", "SELECT ?x WHERE LIMIT 2 OFFSET 5": "x:", "SELECT ?x WHERE LIMIT 2 OFFSET 999": "x:", "SELECT ?x WHERE LIMIT 999 OFFSET 999": "x:", "SELECT ?x WHERE LIMIT 999 OFFSET 1": "x: 2; 3; 4; 5", "SELECT ?x WHERE LIMIT 0 OFFSET 2": "x:",
		"SELECT ?x WHERE ORDER - ?x LIMIT 2 OFFSET 1": "x: 4; 3", "SELECT * WHERE LIMIT 1 OFFSET 2": "x y z: 3 - -", "SELECT ?x WHERE GROUP ?x LIMIT 3 OFFSET 1": "x: 2; 3; 4",
		// What is counted, is counted of all.
		"SELECT ( COUNT ?x AS ?n ) WHERE LIMIT 1": "n: 5", "SELECT ( COUNT ?x AS ?n ) WHERE LIMIT 0": "n:", "SELECT ( SUM ?x AS ?n ) WHERE OFFSET 1": "n:",
	})
	checkTables(t, "", map[string]string{"SELECT ?x WHERE OFFSET 1": "x:", "SELECT ?x WHERE LIMIT 1": "x:", "SELECT ?x WHERE LIMIT 0": "x:"})
	// All of both, by numbers.
	q := queryIn(t, "SELECT * WHERE { ?x <p> ?y . }")
	full, _ := impl.Finish(q, numbered(300))
	for _, offset := range []int{0, 1, 2, 149, 299, 300, 301, 999} {
		for _, limit := range []int{-1, 0, 1, 2, 150, 299, 300, 301, 999} {
			q.Offset, q.Limit = offset, limit
			got, ok := impl.Finish(q, numbered(300))
			if want := tellSols(meantPart(full.Rows, offset, limit)); !ok || tellSols(got.Rows) != want || tellVars(got.Vars) != "x y" {
				t.Errorf("%d, %d: %v, %q, want %q", offset, limit, ok, tellSols(got.Rows), want)
			}
		}
	}
}

func meantPart(rows []impl.Sol, offset int, limit int) []impl.Sol {
	var out []impl.Sol
	for i, s := range rows {
		if i >= offset && (limit == -1 || i < offset+limit) {
			out = append(out, s)
		}
	}
	return out
}

// meantCell works a cell out of a group's rows, by the words of the document.
func meantCell(s impl.Sel, group []bindings) impl.Cell {
	if s.Fn == impl.FnPlain {
		x, has := group[0][string(s.Var)]
		return impl.Cell{Has: has, T: x}
	}
	n, all, fits := 0, number(0, 0), true
	for _, row := range group {
		x, has := row[string(s.Of)]
		if !has {
			continue
		}
		n++
		if fits = fits && x.Kind == impl.TmNum; fits {
			all, fits = meant(impl.NuAdd, all, x)
		}
	}
	if s.Fn == impl.FnCount {
		return impl.Cell{Has: true, T: number(n, 0)}
	}
	if !fits {
		return impl.Cell{}
	}
	return impl.Cell{Has: true, T: all}
}

// meantGroups compares each with each.
func meantGroups(q impl.Query, rows []bindings) [][]bindings {
	var out [][]bindings
	summed := len(q.Group) > 0
	for _, s := range q.Sels {
		summed = summed || s.Fn != impl.FnPlain
	}
	if summed && len(q.Group) == 0 {
		return [][]bindings{rows}
	}
rows:
	for _, row := range rows {
		for i := range out {
			alike := summed
			for _, v := range q.Group {
				x, has := row[string(v)]
				y, hasToo := out[i][0][string(v)]
				alike = alike && has == hasToo && same(x, y)
			}
			if alike {
				out[i] = append(out[i], row)
				continue rows
			}
		}
		out = append(out, []bindings{row})
	}
	return out
}

// isTableAhead is whether a row is ahead of another one in a query's table.
func isTableAhead(q impl.Query, names [][]byte, a impl.Sol, b impl.Sol) bool {
	for _, k := range q.Order {
		for i, v := range names {
			if string(v) != string(k.Var) {
				continue
			}
			x, y := impl.Sol{Cells: a.Cells[i : i+1]}, impl.Sol{Cells: b.Cells[i : i+1]}
			if k.Down {
				x, y = y, x
			}
			if isAheadOf(x, y) || isAheadOf(y, x) {
				return isAheadOf(x, y)
			}
		}
	}
	return isAheadOf(a, b)
}

// meantTable puts each row behind all that are not behind it.
func meantTable(q impl.Query, sols []impl.Sol) impl.Table {
	list := impl.Vars(q)
	var rows []bindings
	for _, s := range sols {
		row := bindings{}
		for i, c := range s.Cells {
			if c.Has {
				row[string(list[i])] = c.T
			}
		}
		at := 0
		for at < len(rows) && !isAheadOf(s, solsOf(rows[at:at+1], list)[0]) {
			at++
		}
		rows = append(rows[:at:at], append([]bindings{row}, rows[at:]...)...)
	}
	sels := q.Sels
	if len(sels) == 0 {
		for _, v := range list {
			sels = append(sels, impl.Sel{Var: v})
		}
	}
	var out impl.Table
	for _, s := range sels {
		out.Vars = append(out.Vars, s.Var)
	}
	for _, group := range meantGroups(q, rows) {
		var own impl.Sol
		for _, s := range sels {
			own.Cells = append(own.Cells, meantCell(s, group))
		}
		at := 0
		for at < len(out.Rows) && !isTableAhead(q, out.Vars, own, out.Rows[at]) {
			at++
		}
		if q.Distinct && at > 0 && tellSols(out.Rows[at-1:at]) == tellSols([]impl.Sol{own}) {
			continue
		}
		out.Rows = append(out.Rows[:at:at], append([]impl.Sol{own}, out.Rows[at:]...)...)
	}
	out.Rows = meantPart(out.Rows, q.Offset, q.Limit)
	return out
}

// tableQuery makes queries that may be, with much around a small body.
func (m maker) tableQuery() impl.Query {
	for {
		names := m.names[:m.Intn(len(m.names)+1)]
		q := selectAll(has(names...)...)
		if m.Intn(12) == 0 {
			q.Ask = true
			return q
		}
		q.Distinct = m.Intn(2) == 0
		q.Limit = pick(m.Rand, -1, -1, -1, 0, 1, 2, 5, 999)
		q.Offset = pick(m.Rand, 0, 0, 0, 1, 2, 5, 999)
		if len(names) > 0 {
			m.selection(&q, names)
		}
		if impl.QueryOk(q) {
			return q
		}
	}
}

// greatSol is poolSol, but has numbers of each size in one of its columns.
func (m maker) greatSol(list [][]byte, numbers []impl.Term) impl.Sol {
	s, _ := m.poolSol(list)
	if len(s.Cells) > 0 {
		s.Cells[m.Intn(len(s.Cells))] = impl.Cell{Has: true, T: pick(m.Rand, numbers...)}
	}
	return s
}

func (m maker) tableSols(list [][]byte, numbers []impl.Term) []impl.Sol {
	var out []impl.Sol
	wide := m.Intn(2) == 0
	for range pick(m.Rand, 0, 1, 2, 3, 5, 8, 13, 21) {
		if wide {
			out = append(out, m.greatSol(list, numbers))
		} else {
			s, _ := m.poolSol(list)
			out = append(out, s)
		}
	}
	return out
}

func tableMaker(seed int64) maker {
	return maker{rand.New(rand.NewSource(seed)), []string{"a", "b", "c", "d", "e", "f"}, 0}
}

func TestTablesAsMeant(t *testing.T) {
	m := tableMaker(103)
	numbers := mixedNumbers(400)
	seen := map[string]int{}
	for range 12000 {
		q := m.tableQuery()
		sols := m.tableSols(impl.Vars(q), numbers)
		want := meantTable(q, sols)
		got, ok := impl.Finish(q, sols)
		if tellTable(got, ok) != tellTable(want, true) {
			text, _ := impl.QueryText(q)
			t.Fatalf("%s of %s: %q, want %q", text, tellSols(sols), tellTable(got, ok), tellTable(want, true))
		}
		switch {
		case q.Ask:
			seen["ask"]++
		case len(q.Group) > 0:
			seen["group"]++
		case len(q.Sels) > 0:
			seen["sels"]++
		default:
			seen["all"]++
		}
		seen[fmt.Sprint("rows ", min(len(got.Rows), 3))]++
		for i, s := range q.Sels {
			if s.Fn == impl.FnSum && len(got.Rows) > 0 {
				seen[fmt.Sprint("sum ", got.Rows[0].Cells[i].Has)]++
			}
		}
	}
	for _, what := range []string{"ask", "group", "sels", "all", "rows 0", "rows 1", "rows 2", "rows 3", "sum true", "sum false"} {
		if seen[what] < 200 {
			t.Errorf("%s: %d show too little", what, seen[what])
		}
	}
}

func TestTablesAreInTheirOrder(t *testing.T) {
	m := tableMaker(104)
	numbers := mixedNumbers(100)
	pairs, alike := 0, 0
	for range 6000 {
		q := m.tableQuery()
		x, ok := impl.Finish(q, m.tableSols(impl.Vars(q), numbers))
		if !ok {
			t.Fatal(q)
		}
		there := map[string]int{}
		for i, s := range x.Rows {
			if i > 0 && isTableAhead(q, x.Vars, s, x.Rows[i-1]) {
				t.Fatalf("%v: %q is not in its order", q, tellTable(x, ok))
			}
			row := tellSols(x.Rows[i : i+1])
			if there[row]++; there[row] > 1 && q.Distinct {
				t.Fatalf("%v: %q is there twice", q, row)
			}
			if there[row] > 1 {
				alike++
			}
			pairs += min(i, 1)
		}
	}
	if pairs < 6000 || alike < 1000 {
		t.Errorf("%d and %d show too little", pairs, alike)
	}
}

func TestTablesArePartsOfWhatTheyAreWithout(t *testing.T) {
	m := tableMaker(105)
	numbers := mixedNumbers(100)
	parts := 0
	for range 6000 {
		q := m.tableQuery()
		sols := m.tableSols(impl.Vars(q), numbers)
		got, ok := impl.Finish(q, sols)
		whole := q
		whole.Limit, whole.Offset = -1, 0
		all, allOk := impl.Finish(whole, sols)
		if !ok || !allOk || tellVars(got.Vars) != tellVars(all.Vars) || tellSols(got.Rows) != tellSols(meantPart(all.Rows, q.Offset, q.Limit)) {
			t.Fatalf("%v: %q of %q", q, tellTable(got, ok), tellTable(all, allOk))
		}
		if 0 < len(got.Rows) && len(got.Rows) < len(all.Rows) {
			parts++
		}
		// Distinct leaves one of each; where there are none alike, all.
		if whole.Distinct {
			whole.Distinct = false
			full, _ := impl.Finish(whole, sols)
			if len(counted(full.Rows)) != len(all.Rows) {
				t.Fatalf("%v: %q of %q", q, tellSols(all.Rows), tellSols(full.Rows))
			}
			isAmong(t, "distinct", all.Rows, full.Rows)
		}
	}
	if parts < 600 {
		t.Errorf("%d show too little", parts)
	}
}

func TestInWhichOrderSolutionsComePlaysNoPart(t *testing.T) {
	m := tableMaker(106)
	// Sums of these fit in one order, and do not in another.
	numbers := []impl.Term{number(impl.MaxWhole, 0), number(-impl.MaxWhole, 0), number(1, 0), number(-1, 0), number(5, 1)}
	for range 4000 {
		q := m.tableQuery()
		sols := m.tableSols(impl.Vars(q), numbers)
		first := tellTable(impl.Finish(q, sols))
		for range 3 {
			m.Shuffle(len(sols), func(i, j int) { sols[i], sols[j] = sols[j], sols[i] })
			if again := tellTable(impl.Finish(q, sols)); again != first {
				t.Fatalf("%v of %q: %q, then %q", q, tellSols(sols), first, again)
			}
		}
	}
	// Many, and by the greatest number of keys.
	q := queryIn(t, "SELECT ?d ?c ( COUNT ?e AS ?n ) ( SUM ?e AS ?s ) WHERE { ?a ?b ?c . ?d ?e ?e . } GROUP ?a ?b ?c ?d ORDER - ?s ?c - ?d ?n")
	for range 20 {
		var sols []impl.Sol
		for range 300 {
			s, _ := m.poolSol(impl.Vars(q))
			sols = append(sols, s)
		}
		first := tellTable(impl.Finish(q, sols))
		m.Shuffle(len(sols), func(i, j int) { sols[i], sols[j] = sols[j], sols[i] })
		if again := tellTable(impl.Finish(q, sols)); again != first || strings.Count(first, ";") < 100 {
			t.Fatalf("%q, then %q", first, again)
		}
	}
}

func TestTablesAreNewMemory(t *testing.T) {
	m := tableMaker(107)
	list := rowsIn(`"t" <a> "u"; "t" <b> -; "s" <a> "u"; "t" <a> "u"; - - -`)
	for _, text := range []string{
		"ASK { ?x ?y ?z . }", "SELECT * WHERE { ?x ?y ?z . }", "SELECT ?z ?x WHERE { ?x ?y ?z . } ORDER - ?z LIMIT 3 OFFSET 1", "SELECT DISTINCT ?x ?y WHERE { ?x ?y ?z . }", "SELECT ?x ?z WHERE { ?x ?y ?z . } GROUP ?x ?z", "SELECT ?x ( COUNT ?y AS ?n ) ( SUM ?y AS ?s ) WHERE { ?x ?y ?z . } GROUP ?x", "SELECT ( COUNT ?y AS ?n ) WHERE { ?x ?y ?z . }", "SELECT ?x WHERE { ?x ?y ?z . } LIMIT 0",
	} {
		q := withSpare(reflect.ValueOf(queryIn(t, text))).Interface().(impl.Query) // its own lists share none
		sols := withSpare(reflect.ValueOf(list)).Interface().([]impl.Sol)
		got, ok := impl.Finish(q, sols)
		again, _ := impl.Finish(q, sols)
		if !ok || len(got.Vars) == 0 {
			t.Fatal(text)
		}
		checkOwnMemory(t, q, sols, got, again)
		before := tellTable(again, ok)
		got.Vars[0][0] = 'Z'
		for _, s := range got.Rows {
			for i, c := range s.Cells {
				if len(c.T.Text) > 0 {
					c.T.Text[0] = 'Z'
				}
				s.Cells[i] = impl.Cell{}
			}
		}
		if third := tellTable(impl.Finish(q, sols)); third != before || tellTable(again, ok) != before {
			t.Errorf("%s: %q, then %q", text, before, third)
		}
	}
	for range 400 {
		q := m.tableQuery()
		sols := m.tableSols(impl.Vars(q), mixedNumbers(70))
		q, sols = withSpare(reflect.ValueOf(q)).Interface().(impl.Query), withSpare(reflect.ValueOf(sols)).Interface().([]impl.Sol)
		got, _ := impl.Finish(q, sols)
		checkOwnMemory(t, q, sols, got, impl.TableText(got))
	}
}

// Rows that have gone must not be found behind those that are left.
func TestNothingLiesBehindTheRows(t *testing.T) {
	for _, text := range []string{"SELECT ?x WHERE { ?x <p> ?y . } LIMIT 0", "SELECT ?x WHERE { ?x <p> ?y . } LIMIT 2", "SELECT DISTINCT ?y WHERE { ?x <p> ?y . }", "SELECT DISTINCT ?y WHERE { ?x <p> ?y . } LIMIT 3 OFFSET 2", "SELECT * WHERE { ?x <p> ?y . } OFFSET 295", "SELECT ?y WHERE { ?x <p> ?y . } GROUP ?y LIMIT 1"} {
		x, ok := impl.Finish(queryIn(t, text), numbered(300))
		for _, s := range x.Rows[len(x.Rows):cap(x.Rows)] {
			if !ok || len(s.Cells) > 0 {
				t.Fatalf("%s: %v, %v lies behind the rows", text, ok, s)
			}
		}
	}
}

func TestFinishArgumentsAreLeftAlone(t *testing.T) {
	m := tableMaker(108)
	numbers := mixedNumbers(100)
	for range 1000 {
		type all struct {
			Q    impl.Query
			Sols []impl.Sol
		}
		q := m.tableQuery()
		made := all{q, m.tableSols(impl.Vars(q), numbers)}
		given := withSpare(reflect.ValueOf(made)).Interface().(all)
		before := wholly(reflect.ValueOf(given))
		got := tellTable(impl.Finish(given.Q, given.Sols))
		if want := tellTable(impl.Finish(made.Q, made.Sols)); got != want {
			t.Fatalf("%v: %q, want %q: what lies behind its lists plays a part", q, got, want)
		}
		if wholly(reflect.ValueOf(given)) != before {
			t.Fatalf("%v: an argument is not what it was", q)
		}
	}
}

func TestTablesAreTheSameEachTime(t *testing.T) {
	m := tableMaker(109)
	numbers := mixedNumbers(100)
	for range 200 {
		q := m.tableQuery()
		sols := m.tableSols(impl.Vars(q), numbers)
		first := tellTable(impl.Finish(q, sols))
		for range 5 {
			if again := tellTable(impl.Finish(q, sols)); again != first {
				t.Fatalf("%v: %q, then %q", q, first, again)
			}
		}
	}
}

func TestTablesOfQueries(t *testing.T) {
	g := graphIn(t, `<ann> <age> 34 . <ann> <knows> <bob> . <ann> <knows> _:1 . <bob> <age> 20 . <bob> <name> "Bob" . _:1 <age> 61 . _:1 <name> "" .`)
	for text, want := range map[string]string{
		"SELECT ?x ?n WHERE { ?x <age> ?n . } ORDER - ?n":                                                        "x n: _:1 61; <ann> 34; <bob> 20",
		"SELECT ( COUNT ?t AS ?c ) ( SUM ?n AS ?s ) WHERE { ?x <age> ?n . OPTIONAL { ?x <name> ?t . } }":         "c s: 2 115",
		"SELECT ?x ( COUNT ?y AS ?c ) WHERE { ?x <age> ?n . OPTIONAL { ?x <knows> ?y . } } GROUP ?x":             "x c: <ann> 2; <bob> 0; _:1 0",
		"SELECT DISTINCT ?p WHERE { ?x ?p ?y . }":                                                                "p: <age>; <knows>; <name>",
		"SELECT ?p ( COUNT ?x AS ?c ) WHERE { ?x ?p ?y . } GROUP ?p ORDER - ?c LIMIT 1":                          "p c: <age> 3",
		"SELECT ( SUM ?n AS ?s ) WHERE { ?x <height> ?n . }":                                                     "s: 0",
		"SELECT ?x ( SUM ?n AS ?s ) WHERE { ?x <height> ?n . } GROUP ?x":                                         "x s:",
		"SELECT ?old ( SUM ?n AS ?s ) WHERE { ?x <age> ?n . BIND ( 30 < ?n ) ?old } GROUP ?old ORDER - ?old":     "old s: 1 95; 0 20",
		"SELECT ?t ?x WHERE { UNION { ?x <name> ?t . } { ?x <age> ?t . FILTER ( ?t < 40 ) } } LIMIT 3":           `t x: "" _:1; "Bob" <bob>; 20 <bob>`,
		"SELECT ?t ?x WHERE { UNION { ?x <name> ?t . } { ?x <age> ?t . FILTER ( ?t < 40 ) } } ORDER ?x OFFSET 1": `t x: "Bob" <bob>; 20 <bob>; "" _:1`,
	} {
		q := queryIn(t, text)
		a, _ := impl.Algebra(q)
		sols, ok := impl.Solve(g, a, impl.Vars(q))
		if got := tellTable(impl.Finish(q, sols)); !ok || got != want {
			t.Errorf("%s: %v, %q, want %q", text, ok, got, want)
		}
	}
}
