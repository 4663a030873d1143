package tests

import (
	"bytes"
	"fmt"
	"math"
	"strings"
	"testing"

	"loop.example/g00347/impl"
)

const family = `<ann> <age> 34 . <ann> <knows> <bob> . <ann> <knows> _:1 . <bob> <age> 20 . <bob> <name> "Bob" . _:1 <age> 61 . _:1 <name> "" .`

func refused(code int, why int, at int) impl.Answer {
	return impl.Answer{Code: code, Why: why, At: at}
}

func saying(yes bool) impl.Answer { return impl.Answer{Code: impl.RunWell, Yes: yes} }

func telling(text string) impl.Answer { return impl.Answer{Code: impl.RunWell, Text: []byte(text)} }

// sameAnswer looks at each field: one that is not named for a code must be zero.
func sameAnswer(a impl.Answer, b impl.Answer) bool {
	return a.Code == b.Code && a.Why == b.Why && a.At == b.At && a.Yes == b.Yes && bytes.Equal(a.Text, b.Text)
}

func tellAnswer(a impl.Answer) string {
	return fmt.Sprintf("code %d, why %d at %d, %v, %q", a.Code, a.Why, a.At, a.Yes, a.Text)
}

func checkAsk(t *testing.T, graph string, query string, choices []int, want impl.Answer) {
	t.Helper()
	if got := impl.Ask([]byte(graph), []byte(query), choices); !sameAnswer(got, want) {
		t.Errorf("%.300q of %.80q by %v: %s, want %s", query, graph, choices, tellAnswer(got), tellAnswer(want))
	}
}

// someChoices are lists that decide unlike plans.
func someChoices() [][]int {
	return [][]int{nil, {}, {1}, {0, 5, 1}, ones(6), {2, 4, 0, 1, 3, 1, 0}, {-1, -1, -1, -1}, {5, 4, 3, 2, 1}, {math.MinInt, math.MaxInt, math.MinInt, -7}, ones(300)}
}

// checkAlways wants the same, whatever is chosen.
func checkAlways(t *testing.T, graph string, query string, want impl.Answer) {
	t.Helper()
	for _, choices := range someChoices() {
		checkAsk(t, graph, query, choices, want)
	}
}

func graphText(t *testing.T, g impl.Graph) string {
	t.Helper()
	s, ok := impl.GraphText(g)
	if !ok || len(s) > impl.MaxGraph {
		t.Fatalf("%s has no text to be read", tellGraph(g))
	}
	return string(s)
}

func queryText(q impl.Query) string { return strings.Join(meantTokens(q), " ") }

// padded has blanks behind a text, up to so many bytes.
func padded(s string, size int) string { return s + strings.Repeat(" ", size-len(s)) }

func TestAnswerConstants(t *testing.T) {
	got := fmt.Sprint(impl.RunWell, impl.RunGraph, impl.RunQuery, impl.RunRows, impl.RunPlan)
	if got != "0 1 2 3 4" {
		t.Error(got)
	}
}

func TestGraphsThatAreRefused(t *testing.T) {
	var long []impl.Triple
	for i := range 61 {
		long = append(long, triple(name("a"), name("p"), number(i, 0)))
	}
	for _, c := range []reading{
		{padded("<a> <p> <b> .", 3001), impl.ReadLong, 0}, {strings.Repeat("\x00", 3001), impl.ReadLong, 0}, {strings.Repeat("<a> <p> <b> . ", 1000), impl.ReadLong, 0}, {strings.Repeat(" ", 3001), impl.ReadLong, 0},
		{"#", impl.ReadByte, 0}, {"<a> <p> 05 .", impl.ReadByte, 8}, {"<a> <p> \"b\n\" .", impl.ReadByte, 8}, {"<a> <p> <b> .\n<a> <p> ?A .", impl.ReadByte, 22}, {". . . ;", impl.ReadByte, 6}, {"<a> <p> \"no end", impl.ReadByte, 8}, {"_:1000000 <p> 1 .", impl.ReadByte, 0}, {padded("<a> <p> <b> .", 2999) + "\x00", impl.ReadByte, 2999},
		{"<a>", impl.ReadForm, 3}, {"<a> ", impl.ReadForm, 4}, {"<a> <p>", impl.ReadForm, 7}, {"<a> <p> <b>", impl.ReadForm, 11}, {"<a> <p> <b> . <b>\n", impl.ReadForm, 18}, {".", impl.ReadForm, 0}, {"5 <p> <b> .", impl.ReadForm, 0}, {"<a> _:1 <b> .", impl.ReadForm, 4}, {"<a> <p> ?x .", impl.ReadForm, 8}, {"<a> <p> <b> <c>", impl.ReadForm, 12}, {"ASK { }", impl.ReadForm, 0}, {padded("<a>", 3000), impl.ReadForm, 3000},
		{triplesText(long), impl.ReadLong, 0}, {triplesText(long) + "<a><p>0.", impl.ReadLong, 0},
	} {
		// The graph counts first, whatever else is wrong.
		for _, query := range []string{"ASK { }", "SELECT * WHERE { ?x ?y ?z . }", "", "ASK", "#", "ASK { } }", "SELECT ?x WHERE { }", strings.Repeat(" ", 2001), "ASK { VALUES ?a { 1 2 3 4 5 6 7 8 } VALUES ?b { 1 2 3 4 5 6 7 8 } VALUES ?c { 1 2 3 4 5 6 7 8 } }"} {
			checkAlways(t, c.text, query, refused(impl.RunGraph, c.code, c.at))
			checkAsk(t, c.text, query, ones(301), refused(impl.RunGraph, c.code, c.at))
		}
	}
}

func TestGraphsThatAreJustRead(t *testing.T) {
	most := graphText(t, graph(countedTriples(60)...))
	for _, g := range []string{padded("<a> <p> <b> .", 3000), padded("", 2987) + "<a> <p> <b> .", strings.Repeat("<a> <p> <b> . ", 214), most, padded(most, 3000), most + "<a> <p> _:100000 . <a> <p> _:100059 ."} {
		checkAlways(t, g, "ASK { <a> <p> ?x . }", saying(true))
		checkAlways(t, g, "ASK { <a> <q> ?x . }", saying(false))
	}
	checkAlways(t, most, "SELECT ( COUNT ?x AS ?n ) WHERE { <a> <p> ?x . }", telling("?n \n60 \n"))
	checkAlways(t, most+most, "SELECT ( COUNT ?x AS ?n ) WHERE { <a> <p> ?x . }", telling("?n \n60 \n"))
}

func TestQueriesThatAreRefused(t *testing.T) {
	for _, c := range []reading{
		{padded("ASK { }", 2001), impl.ReadLong, 0}, {strings.Repeat("#", 2001), impl.ReadLong, 0}, {strings.Repeat("ASK { } ", 2000), impl.ReadLong, 0},
		{"#", impl.ReadByte, 0}, {"ask { }", impl.ReadByte, 0}, {"ASK { ?x <p> ?Y . }", impl.ReadByte, 13}, {"ASK { ?x <p> 1.0 . }", impl.ReadByte, 13}, {"ASK } } } ,", impl.ReadByte, 10}, {"SELECT ?x WHERE { ?x <p> \"a\\b\" . }", impl.ReadByte, 25}, {"ASK { } \t", impl.ReadByte, 8}, {padded("ASK { }", 1999) + "\x7f", impl.ReadByte, 1999},
		{"", impl.ReadForm, 0}, {" \n ", impl.ReadForm, 3}, {"ASK", impl.ReadForm, 3}, {"ASK ", impl.ReadForm, 4}, {"ASK {", impl.ReadForm, 5}, {"ASK { ?x <p> }", impl.ReadForm, 13}, {"ASK { 5 <p> ?x . }", impl.ReadForm, 6}, {"ASK { } ASK { }", impl.ReadForm, 8}, {"SELECT WHERE { }", impl.ReadForm, 7}, {"SELECT * { }", impl.ReadForm, 9}, {"<a> <p> <b> .", impl.ReadForm, 0}, {"SELECT * WHERE { ?x <p> ?y . } LIMIT 1000", impl.ReadForm, 37}, {"SELECT * WHERE { ?x <p> ?y . } LIMIT 0.5", impl.ReadForm, 37}, {"SELECT * WHERE { ?x <p> ?y . } OFFSET 0", impl.ReadForm, 38}, {"SELECT * WHERE { ?x <p> ?y . } ORDER", impl.ReadForm, 36}, {"ASK { FILTER COAL { } }", impl.ReadForm, 20}, {padded("ASK", 2000), impl.ReadForm, 2000},
		// Read, but not QueryOk.
		{"SELECT ?y WHERE { ?x <p> <b> . }", impl.ReadLong, 0}, {"SELECT ?x ?x WHERE { ?x <p> <b> . }", impl.ReadLong, 0}, {"SELECT ( COUNT ?x AS ?x ) WHERE { ?x <p> <b> . }", impl.ReadLong, 0}, {"SELECT * WHERE { ?x <p> <b> . } GROUP ?x", impl.ReadLong, 0}, {"SELECT ?x WHERE { ?x <p> <b> . } ORDER ?y", impl.ReadLong, 0}, {"ASK { ?x <p> <b> . BIND 1 ?x }", impl.ReadLong, 0}, {"ASK { } LIMIT 5", impl.ReadLong, 0},
		{"ASK { ?a ?b ?c . ?d ?e ?f . ?g ?h ?i . }", impl.ReadLong, 0}, {"ASK { FILTER " + strings.Repeat("NOT ", 9) + "1 }", impl.ReadLong, 0}, {"ASK " + strings.Repeat("{ MINUS ", 11) + strings.Repeat("} ", 11), impl.ReadForm, 92}, {"ASK { " + strings.Repeat("MINUS { ", 11) + strings.Repeat("} ", 12), impl.ReadLong, 0}, {"ASK { " + strings.Repeat("?x<p>1.", 121) + "}", impl.ReadLong, 0}, {"ASK { VALUES ?x { 1 2 3 4 5 6 7 8 9 } }", impl.ReadLong, 0},
		// What was read has a longer text: a blank behind each token.
		{"ASK{" + strings.Repeat("FILTER(1=1)", 100) + "FILTER\"" + strings.Repeat("x", 30) + "\"}", impl.ReadLong, 0},
	} {
		for _, g := range []string{"", family, graphText(t, twoKinds(30, 30))} {
			checkAlways(t, g, c.text, refused(impl.RunQuery, c.code, c.at))
			// The query counts ahead of the choices.
			checkAsk(t, g, c.text, ones(301), refused(impl.RunQuery, c.code, c.at))
		}
	}
}

func TestQueriesThatAreJustRead(t *testing.T) {
	for _, query := range []string{padded("ASK { }", 2000), padded("", 1993) + "ASK { }", "ASK { FILTER " + strings.Repeat("NOT ", 8) + "1 }", "ASK { " + strings.Repeat("MINUS { ", 10) + strings.Repeat("} ", 11), "ASK { ?a ?b ?c . ?d ?e ?f . ?g ?h ?a . }", "ASK { VALUES ?x { 1 2 3 4 5 6 7 8 } }"} {
		checkAlways(t, "<a> <a> <a> .", query, saying(true))
	}
	checkAlways(t, "<a> <a> <a> .", "ASK { "+strings.Repeat("?x?x<a>.", 120)+"}", saying(true))
	checkAlways(t, "<a> <a> <b> .", "ASK { "+strings.Repeat("?x?x<a>.", 120)+"}", saying(false))
}

func TestEmptyTexts(t *testing.T) {
	nothing := refused(impl.RunQuery, impl.ReadForm, 0)
	checkAlways(t, "", "", nothing)
	for _, empty := range [][]byte{nil, {}} {
		if got := impl.Ask(empty, empty, nil); !sameAnswer(got, nothing) {
			t.Error(tellAnswer(got))
		}
	}
	checkAsk(t, "", "", ones(301), nothing)
	checkAlways(t, family, "", nothing)
	checkAlways(t, " \n", "\n", refused(impl.RunQuery, impl.ReadForm, 1))
	// Without triples there is the solution without terms, and no other.
	checkAlways(t, "", "ASK { }", saying(true))
	checkAlways(t, "", "ASK { ?x ?y ?z . }", saying(false))
	checkAlways(t, "\n \n", "SELECT * WHERE { ?x ?y ?z . }", telling("?x ?y ?z \n"))
	checkAlways(t, "", "SELECT * WHERE { }", telling("\n\n"))
}

func TestHowManyChoicesAreAsked(t *testing.T) {
	noPlan := refused(impl.RunPlan, 0, 0)
	for query, want := range map[string]impl.Answer{
		"ASK { }": saying(true), "ASK { ?x <age> 20 . ?x <name> ?n . }": saying(true), "ASK { ?x <age> 21 . }": saying(false), "SELECT ?x WHERE { ?x <age> 20 . } LIMIT 0": telling("?x \n"), "SELECT ?x WHERE { ?x <age> ?n . FILTER ( ?n < 35 ) }": telling("?x \n<ann> \n<bob> \n"),
	} {
		for count, fits := range map[int]bool{0: true, 1: true, 299: true, 300: true, 301: false, 302: false, 100000: false} {
			for _, one := range []int{0, 1, 5, -1, -2, math.MinInt, math.MaxInt} {
				choices := make([]int, count)
				for i := range choices {
					choices[i] = one
				}
				if fits {
					checkAsk(t, family, query, choices, want)
				} else {
					checkAsk(t, family, query, choices, noPlan)
				}
			}
		}
	}
}

// branches is a union of so many empty groups, with extra patterns in the last one.
func branches(count int, extra int) []impl.Elem {
	if count == 1 {
		return repeated(extra, asked("?a", name("p"), "?a"))
	}
	return group(union(branches(count/2, 0), branches(count-count/2, extra)))
}

func TestPlansThatSomeChoicesMakeTooGreat(t *testing.T) {
	// Asked early, what is asked stands in each of 16: with its 87 parts, PlFilter
	// and PlUnit, 15 PlUnion and a pattern that is 1440 parts.
	e := ex(impl.ExCoal, exTerm(number(1, 0)), expression(85))
	for extra := range 4 {
		text := queryText(ask(append(branches(16, extra), filter(e))...))
		a, _ := impl.Algebra(queryIn(t, text))
		if p, ok := impl.PlanOf(a, ones(31)); ok && walkPlan(p).nodes != 1439+extra {
			t.Fatalf("%s: %d parts", text, walkPlan(p).nodes)
		}
		for _, choices := range [][]int{nil, {0, 1, 1, 1}, {1}, {2, 1, 1, 1, 1}} {
			checkAsk(t, "", text, choices, saying(true))
		}
		want := refused(impl.RunPlan, 0, 0)
		if extra <= 1 {
			want = saying(true)
		}
		checkAsk(t, "", text, ones(31), want)
		checkAsk(t, "", text, append([]int{-1, 3, 5, 7, math.MaxInt}, ones(26)...), want)
		// By more choices a pattern is looked up by itself, and so is three parts.
		if extra == 1 {
			want = refused(impl.RunPlan, 0, 0)
		}
		checkAsk(t, "", text, ones(300), want)
	}
	// With a table, over a graph with rows; and where none would be left.
	text := queryText(impl.Query{Body: append(branches(16, 2), filter(e)), Sels: []impl.Sel{count("a", "n")}, Limit: -1})
	checkAsk(t, "<a> <p> <a> . <b> <p> <b> . <c> <p> <b> .", text, nil, telling("?n \n2 \n"))
	checkAsk(t, "<a> <p> <a> . <b> <p> <b> . <c> <p> <b> .", text, ones(31), refused(impl.RunPlan, 0, 0))
	none := append(branches(16, 2), filter(ex(impl.ExCoal, exTerm(number(0, 0)), expression(85))))
	checkAsk(t, "", queryText(ask(none...)), nil, saying(false))
	checkAsk(t, "", queryText(ask(none...)), ones(31), refused(impl.RunPlan, 0, 0))
}

func TestRowsThatSomeChoicesMakeTooMany(t *testing.T) {
	noRows := refused(impl.RunRows, 0, 0)
	// 25 by 25 rows are too many, unless the third pattern comes between.
	g := graphText(t, twoKinds(25, 25)) + "<b> <q> 3 . <b> <p> 4 ."
	for query, want := range map[string]impl.Answer{
		"ASK { <a> <p> ?x . <a> <q> ?y . <b> <q> ?x . }":                                                 saying(true),
		"ASK { <a> <p> ?x . <a> <q> ?y . <c> <q> ?x . }":                                                 saying(false),
		"SELECT ?x ?y WHERE { <a> <p> ?x . <a> <q> ?y . <b> <q> ?x . } LIMIT 2":                          telling("?x ?y \n3 0 \n3 1 \n"),
		"SELECT ?x ( COUNT ?y AS ?n ) WHERE { <a> <p> ?x . <a> <q> ?y . <b> <q> ?x . } GROUP ?x":         telling("?x ?n \n3 25 \n"),
		"SELECT ( SUM ?y AS ?n ) ( SUM ?x AS ?m ) WHERE { <a> <p> ?x . <a> <q> ?y . <b> <q> ?x . }":      telling("?n ?m \n300 75 \n"),
		"SELECT * WHERE { <a> <p> ?x . <a> <q> ?y . <b> <q> ?x . } ORDER - ?y LIMIT 1":                   telling("?x ?y \n3 24 \n"),
		"SELECT DISTINCT ?x WHERE { <a> <p> ?x . <a> <q> ?y . <b> <q> ?x . VALUES ?y { 1 2 } } LIMIT 10": telling("?x \n3 \n"),
	} {
		for _, choices := range [][]int{nil, {0, 0, 0}, {1}, {1, 3, 0, 0, 2, 1}, {-2, 0, 1, -2, 0, 1}} {
			checkAsk(t, g, query, choices, noRows)
		}
		for _, choices := range [][]int{{2}, {0, 0, 0, 1}, {0, 5, 1, 1, 4, 1}, {-1}, {2, 3, 1, 1}, {5}} {
			checkAsk(t, g, query, choices, want)
		}
	}
	// Asked early enough, none is left to be too many.
	eight := "{ 1 2 3 4 5 6 7 8 }"
	late := "ASK { VALUES ?a " + eight + " VALUES ?b " + eight + " VALUES ?c " + eight + " FILTER ( 8 < ?a ) }"
	checkAsk(t, g, late, nil, noRows)
	checkAsk(t, g, late, []int{0, 1, 1, 1}, noRows)
	checkAsk(t, g, late, []int{1, 1}, saying(false))
	checkAsk(t, g, late, ones(300), saying(false))
	// Too many by all choices.
	for _, query := range []string{
		"ASK { VALUES ?a " + eight + " VALUES ?b " + eight + " VALUES ?c " + eight + " }", "SELECT * WHERE { <a> <p> ?x . <a> <q> ?y . }", "SELECT * WHERE { <a> <p> ?x . <a> <q> ?y . } LIMIT 0", "SELECT ( COUNT ?x AS ?n ) WHERE { <a> <p> ?x . <a> <q> ?y . }", "SELECT DISTINCT ?x WHERE { <a> <p> ?x . OPTIONAL { <a> <q> ?y . } }", "ASK { MINUS { <a> <p> ?x . <a> <q> ?y . } }",
	} {
		checkAlways(t, g, query, noRows)
		// That there is no plan counts ahead of there being too many rows.
		checkAsk(t, g, query, ones(301), refused(impl.RunPlan, 0, 0))
	}
}

func TestRowsThatAreJustAsManyAsMayBe(t *testing.T) {
	checkAlways(t, graphText(t, twoKinds(12, 25)), "SELECT ( COUNT ?x AS ?n ) WHERE { <a> <p> ?x . <a> <q> ?y . }", telling("?n \n300 \n"))
	checkAlways(t, graphText(t, twoKinds(25, 12)), "ASK { <a> <p> ?x . <a> <q> ?y . }", saying(true))
	checkAlways(t, graphText(t, twoKinds(7, 43)), "ASK { <a> <p> ?x . <a> <q> ?y . }", refused(impl.RunRows, 0, 0))
	checkAlways(t, graphText(t, twoKinds(43, 7)), "SELECT * WHERE { <a> <p> ?x . <a> <q> ?y . }", refused(impl.RunRows, 0, 0))
	got := impl.Ask([]byte(graphText(t, twoKinds(12, 25))), []byte("SELECT * WHERE { <a> <p> ?x . <a> <q> ?y . }"), []int{1})
	lines := strings.SplitAfter(string(got.Text), "\n")
	if len(lines) != 302 || lines[0] != "?x ?y \n" || lines[1] != "0 0 \n" || lines[26] != "1 0 \n" || lines[300] != "11 24 \n" || lines[301] != "" {
		t.Error(tellAnswer(got))
	}
}

func TestAskingWhetherThereIsOne(t *testing.T) {
	for query, want := range map[string]bool{
		"ASK { }": true, "ASK { ?x <age> 34 . }": true, "ASK { ?x <age> 35 . }": false, "ASK { <ann> <knows> ?y . ?y <name> \"Bob\" . }": true, "ASK { <ann> <knows> ?y . ?y <name> \"bob\" . }": false, "ASK { <ann> <age> 34 . }": true, "ASK { <ann> <age> 3.4 . }": false,
		"ASK { FILTER 0 }": false, "ASK { FILTER 1 }": true, "ASK { FILTER ?x }": false, "ASK { OPTIONAL { ?x <age> 35 . } }": true, "ASK { ?x <age> ?n . MINUS { ?x <age> ?m . } }": false, "ASK { VALUES ?x { } }": false, "ASK { VALUES ?x { <ann> } ?x <knows> _:1 . }": true, "ASK { UNION { FILTER 0 } { ?x <name> \"\" . } }": true, "ASK { ?x <age> ?n . FILTER ( ( 60 < ?n ) & BOUND ?x ) }": true, "ASK { BIND ( 1 / 0 ) ?x }": true,
	} {
		checkAlways(t, family, query, saying(want))
		// The text's own form plays no part.
		checkAlways(t, family, "\n"+strings.ReplaceAll(query, " ", "\n  ")+"\n", saying(want))
	}
}

func TestTablesThatAreTold(t *testing.T) {
	for query, want := range map[string]string{
		"SELECT ?x ?n WHERE { ?x <age> ?n . }": "?x ?n \n<ann> 34 \n<bob> 20 \n_:1 61 \n", "SELECT * WHERE { ?x <age> ?n . }": "?x ?n \n<ann> 34 \n<bob> 20 \n_:1 61 \n", "SELECT ?n ?x WHERE { ?x <age> ?n . }": "?n ?x \n20 <bob> \n34 <ann> \n61 _:1 \n", "SELECT ?n WHERE { ?x <age> ?n . }": "?n \n20 \n34 \n61 \n",
		// No rows, no variables.
		"SELECT ?x WHERE { ?x <height> ?n . }": "?x \n", "SELECT * WHERE { ?x <height> ?n . }": "?x ?n \n", "SELECT * WHERE { }": "\n\n", "SELECT * WHERE { FILTER 0 }": "\n", "SELECT * WHERE { <ann> <age> 34 . UNION { } { } }": "\n\n\n",
		// Empty cells.
		"SELECT ?x ?t WHERE { ?x <age> ?n . OPTIONAL { ?x <name> ?t . } }": "?x ?t \n<ann> - \n<bob> \"Bob\" \n_:1 \"\" \n", "SELECT ?t WHERE { OPTIONAL { ?x <height> ?t . } }": "?t \n- \n", "SELECT * WHERE { FILTER NOT BOUND ?x }": "?x \n- \n", "SELECT * WHERE { UNION { VALUES ?a { 1 } } { VALUES ?b { 2 } } }": "?a ?b \n- 2 \n1 - \n", "SELECT ?y WHERE { ?x <name> ?t . BIND ( ?t + 1 ) ?y }": "?y \n- \n- \n",
		// Counted, summed, by groups.
		"SELECT ( COUNT ?x AS ?c ) ( SUM ?n AS ?s ) WHERE { ?x <age> ?n . }": "?c ?s \n3 115 \n", "SELECT ( COUNT ?x AS ?c ) ( SUM ?n AS ?s ) WHERE { ?x <height> ?n . }": "?c ?s \n0 0 \n", "SELECT ?x ( SUM ?n AS ?s ) WHERE { ?x <height> ?n . } GROUP ?x": "?x ?s \n", "SELECT ( SUM ?t AS ?s ) WHERE { ?x <name> ?t . }": "?s \n- \n", "SELECT ?p ( COUNT ?o AS ?c ) WHERE { ?s ?p ?o . } GROUP ?p": "?p ?c \n<age> 3 \n<knows> 2 \n<name> 2 \n", "SELECT ?x ( COUNT ?y AS ?c ) WHERE { ?x <age> ?n . OPTIONAL { ?x <knows> ?y . } } GROUP ?x": "?x ?c \n<ann> 2 \n<bob> 0 \n_:1 0 \n", "SELECT ?t ( SUM ?n AS ?s ) WHERE { ?x <age> ?n . OPTIONAL { ?x <name> ?t . } } GROUP ?t": "?t ?s \n- 34 \n\"\" 61 \n\"Bob\" 20 \n", "SELECT ( SUM ?h AS ?s ) WHERE { ?x <age> ?n . BIND ( ?n / 4 ) ?h }": "?s \n28.75 \n",
		// Put in order, each once, a part.
		"SELECT ?x ?n WHERE { ?x <age> ?n . } ORDER ?n": "?x ?n \n<bob> 20 \n<ann> 34 \n_:1 61 \n", "SELECT ?x ?n WHERE { ?x <age> ?n . } ORDER - ?n": "?x ?n \n_:1 61 \n<ann> 34 \n<bob> 20 \n", "SELECT ?x ?t WHERE { ?x <age> ?n . OPTIONAL { ?x <name> ?t . } } ORDER - ?t": "?x ?t \n<bob> \"Bob\" \n_:1 \"\" \n<ann> - \n", "SELECT ?p ( COUNT ?o AS ?c ) WHERE { ?s ?p ?o . } GROUP ?p ORDER ?c - ?p": "?p ?c \n<name> 2 \n<knows> 2 \n<age> 3 \n",
		"SELECT ?p WHERE { ?s ?p ?o . FILTER ( ?s = <ann> ) }": "?p \n<age> \n<knows> \n<knows> \n", "SELECT DISTINCT ?p WHERE { ?s ?p ?o . FILTER ( ?s = <ann> ) }": "?p \n<age> \n<knows> \n", "SELECT ?x WHERE { ?x <age> ?n . } LIMIT 2": "?x \n<ann> \n<bob> \n", "SELECT ?x WHERE { ?x <age> ?n . } OFFSET 2": "?x \n_:1 \n", "SELECT ?x WHERE { ?x <age> ?n . } LIMIT 1 OFFSET 1": "?x \n<bob> \n", "SELECT ?x WHERE { ?x <age> ?n . } LIMIT 0": "?x \n", "SELECT ?x WHERE { ?x <age> ?n . } LIMIT 999 OFFSET 999": "?x \n", "SELECT ?x WHERE { ?x <age> ?n . } LIMIT 999": "?x \n<ann> \n<bob> \n_:1 \n", "SELECT DISTINCT ?s ?p WHERE { ?s ?p ?o . } ORDER - ?p ?s LIMIT 3 OFFSET 1": "?s ?p \n_:1 <name> \n<ann> <knows> \n<ann> <age> \n",
	} {
		checkAlways(t, family, query, telling(want))
	}
}

func TestEachTermFromTextToText(t *testing.T) {
	for all := goodTerms(); len(all) > 0; all = all[min(len(all), 40):] {
		var list []impl.Triple
		for _, x := range all[:min(len(all), 40)] {
			list = append(list, triple(name("a"), name("p"), x))
		}
		g, want := ascending(list), "?x ?y \n"
		for _, own := range g.List {
			want += string(impl.Show(own.O)) + " - \n"
		}
		checkAlways(t, graphText(t, g), "SELECT ?x ?y WHERE { <a> <p> ?x . OPTIONAL { ?x <q> ?y . } }", telling(want))
	}
	checkAlways(t, `_:0 <p> "a \"b\" \\" . _:999999 <p> -0.000001 . <zzzzzzzzzzzz> <p> -1000000000000000 . <z> <p> "" .`, "SELECT * WHERE { ?s <p> ?o . } ORDER ?o", telling("?s ?o \n<z> \"\" \n_:0 \"a \\\"b\\\" \\\\\" \n<zzzzzzzzzzzz> -1000000000000000 \n_:999999 -0.000001 \n"))
	// A term of the query that no triple has.
	checkAlways(t, "<a> <p> 1 .", "SELECT * WHERE { VALUES ?x { \"t\" _:7 0.5 <b> } BIND ( 2 / 3 ) ?y } ORDER - ?x", telling("?x ?y \n0.5 0.666666 \n\"t\" 0.666666 \n_:7 0.666666 \n<b> 0.666666 \n"))
}
