package tests

import (
	"bytes"
	"fmt"
	"math/rand"
	"reflect"
	"strings"
	"testing"

	"loop.example/g00347/impl"
)

// meantTokens writes a query by the document's table, whatever it is.
func meantTokens(q impl.Query) []string {
	out := []string{"ASK"}
	if !q.Ask {
		out = []string{"SELECT"}
		if q.Distinct {
			out = append(out, "DISTINCT")
		}
		if len(q.Sels) == 0 {
			out = append(out, "*")
		}
		for _, s := range q.Sels {
			if s.Fn == 0 {
				out = append(out, "?"+string(s.Var))
				continue
			}
			out = append(out, "(", map[int]string{1: "COUNT", 2: "SUM"}[s.Fn], "?"+string(s.Of), "AS", "?"+string(s.Var), ")")
		}
		out = append(out, "WHERE")
	}
	out = append(out, groupTokens(q.Body)...)
	if len(q.Group) > 0 {
		out = append(out, "GROUP")
	}
	for _, v := range q.Group {
		out = append(out, "?"+string(v))
	}
	if len(q.Order) > 0 {
		out = append(out, "ORDER")
	}
	for _, k := range q.Order {
		if k.Down {
			out = append(out, "-")
		}
		out = append(out, "?"+string(k.Var))
	}
	if q.Limit != -1 {
		out = append(out, "LIMIT", fmt.Sprint(q.Limit))
	}
	if q.Offset != 0 {
		out = append(out, "OFFSET", fmt.Sprint(q.Offset))
	}
	return out
}

func itemToken(i impl.Item) string {
	if len(i.Var) > 0 {
		return "?" + string(i.Var)
	}
	return string(impl.Show(i.Term))
}

func groupTokens(list []impl.Elem) []string {
	out := []string{"{"}
	for _, e := range list {
		switch e.Kind {
		case impl.ElTriple:
			out = append(out, itemToken(e.Pat.S), itemToken(e.Pat.P), itemToken(e.Pat.O), ".")
		case impl.ElOptional:
			out = append(append(out, "OPTIONAL"), groupTokens(e.A)...)
		case impl.ElUnion:
			out = append(append(append(out, "UNION"), groupTokens(e.A)...), groupTokens(e.B)...)
		case impl.ElMinus:
			out = append(append(out, "MINUS"), groupTokens(e.A)...)
		case impl.ElFilter:
			out = append(append(out, "FILTER"), exprTokens(e.Expr)...)
		case impl.ElBind:
			out = append(append(append(out, "BIND"), exprTokens(e.Expr)...), "?"+string(e.Var))
		case impl.ElValues:
			out = append(out, "VALUES", "?"+string(e.Var), "{")
			for _, x := range e.Terms {
				out = append(out, string(impl.Show(x)))
			}
			out = append(out, "}")
		}
	}
	return append(out, "}")
}

func exprTokens(e impl.Expr) []string {
	var kids [][]string
	for _, kid := range e.Kids {
		kids = append(kids, exprTokens(kid))
	}
	switch e.Kind {
	case impl.ExVar:
		return []string{"?" + string(e.Var)}
	case impl.ExBound:
		return []string{"BOUND", "?" + string(e.Var)}
	case impl.ExTerm:
		return []string{string(impl.Show(e.Term))}
	case impl.ExOp:
		out := []string{"("}
		for i, kid := range kids {
			if i > 0 {
				out = append(out, []string{"+", "-", "*", "/", "<", "=", "&", "|"}[(e.Op%8+8)%8])
			}
			out = append(out, kid...)
		}
		return append(out, ")")
	}
	out := map[int][]string{impl.ExNot: {"NOT"}, impl.ExIf: {"IF"}, impl.ExCoal: {"COAL", "{"}, impl.ExLen: {"LEN"}}[e.Kind]
	for _, kid := range kids {
		out = append(out, kid...)
	}
	if e.Kind == impl.ExCoal {
		out = append(out, "}")
	}
	return out
}

// grammar has the document's table as rules; what has no rule is a token.
var grammar = map[string][]string{
	"Query":    {"ASK G Tail", "SELECT Distinct What WHERE G Tail"},
	"Distinct": {"", "DISTINCT"}, "What": {"*", "Sel Sels"}, "Sels": {"", "Sel Sels"},
	"Sel": {"variable", "( Fn variable AS variable )"}, "Fn": {"COUNT", "SUM"},
	"G": {"{ Elems }"}, "Elems": {"", "Elem Elems"},
	"Elem":    {"Subject Property Object .", "OPTIONAL G", "MINUS G", "UNION G G", "FILTER E", "BIND E variable", "VALUES variable { Terms }"},
	"Subject": {"variable", "name", "blank"}, "Property": {"variable", "name"}, "Object": {"variable", "Term"},
	"Term": {"name", "blank", "literal"}, "Terms": {"", "Term Terms"},
	"E":    {"variable", "Term", "( E Op E )", "NOT E", "LEN E", "BOUND variable", "IF E E E", "COAL { E Es }"},
	"Es":   {"", "E Es"},
	"Op":   {"+", "-", "*", "/", "<", "=", "&", "|"},
	"Tail": {"Group Order Limit Offset"}, "Group": {"", "GROUP variable Vars"}, "Vars": {"", "variable Vars"},
	"Order": {"", "ORDER Key Keys"}, "Keys": {"", "Key Keys"}, "Key": {"variable", "- variable"},
	"Limit": {"", "LIMIT whole0"}, "Offset": {"", "OFFSET whole1"},
}

// fits tells whether a token of this kind is what a rule names.
func fits(symbol string, kind string, raw string) bool {
	switch symbol {
	case "variable", "name", "blank", "literal":
		return kind == symbol
	case "whole0", "whole1":
		if kind != "literal" || len(raw) > 3 || strings.Trim(raw, "0123456789") != "" {
			return false
		}
		return symbol == "whole0" || raw != "0"
	}
	return raw == symbol && (kind == "word" || kind == raw)
}

// begun tells all that may be left of a rule's symbols, a token being first, or nothing.
func begun(symbols []string) [][]string {
	if len(symbols) == 0 || grammar[symbols[0]] == nil {
		return [][]string{symbols}
	}
	var out [][]string
	for _, rule := range grammar[symbols[0]] {
		out = append(out, begun(append(strings.Fields(rule), symbols[1:]...))...)
	}
	return out
}

// meantForm tells which token is the first that can't stand where it does: as
// many as there are, if one lacks; -1, if all is well.
func meantForm(kinds []string, raws []string) int {
	ways := [][]string{{"Query"}}
	for i := range kinds {
		var left [][]string
		for _, way := range ways {
			for _, symbols := range begun(way) {
				if len(symbols) > 0 && fits(symbols[0], kinds[i], raws[i]) {
					left = append(left, symbols[1:])
				}
			}
		}
		if len(left) == 0 {
			return i
		}
		ways = left
	}
	for _, way := range ways {
		for _, symbols := range begun(way) {
			if len(symbols) == 0 {
				return -1
			}
		}
	}
	return len(kinds)
}

// meantQueryReading tells a code and a place (ReadWell: there is no wrong token;
// what was read may still be no query) and the text of the tokens.
func meantQueryReading(s string) (int, int, string) {
	if len(s) > 2000 {
		return impl.ReadLong, 0, ""
	}
	var kinds, raws []string
	var places []int
	for at := 0; at < len(s); {
		if s[at] == ' ' || s[at] == '\n' {
			at++
			continue
		}
		raw, kind := meantToken(s[at:])
		if raw == "" {
			return impl.ReadByte, at, ""
		}
		kinds, raws, places = append(kinds, kind), append(raws, raw), append(places, at)
		at += len(raw)
	}
	places = append(places, len(s))
	if i := meantForm(kinds, raws); i >= 0 {
		return impl.ReadForm, places[i], ""
	}
	return impl.ReadWell, 0, strings.Join(raws, " ") + " "
}

func checkQueryAsMeant(t *testing.T, s string) int {
	t.Helper()
	q, code, at := impl.QueryRead([]byte(s))
	wantCode, wantAt, tokens := meantQueryReading(s)
	if wantCode == impl.ReadWell && code == impl.ReadLong && at == 0 && told(q) == told(impl.Query{}) {
		return code
	}
	if code != wantCode || at != wantAt {
		t.Fatalf("%q: %d at %d, want %d at %d", s, code, at, wantCode, wantAt)
	}
	if code != impl.ReadWell {
		if told(q) != told(impl.Query{}) {
			t.Fatalf("%q: %v beside %d", s, q, code)
		}
		return code
	}
	if _, ok := meantVars(q); !ok {
		t.Fatalf("%q: %v may not be", s, q)
	}
	if b, ok := impl.QueryText(q); !ok || string(b) != tokens || strings.Join(meantTokens(q), " ")+" " != tokens {
		t.Fatalf("%q: its text is %q, %v, want %q", s, b, ok, tokens)
	}
	return code
}

// checkQueryRefused wants of each a code that refuses, its place, and the zero value.
func checkQueryRefused(t *testing.T, all ...reading) {
	t.Helper()
	for _, c := range all {
		q, code, at := impl.QueryRead([]byte(c.text))
		if code != c.code || at != c.at || told(q) != told(impl.Query{}) {
			t.Errorf("%q: %d at %d, %v, want %d at %d", c.text, code, at, q, c.code, c.at)
		}
	}
}

func checkQueryRead(t *testing.T, s string, want impl.Query) {
	t.Helper()
	q, code, at := impl.QueryRead([]byte(s))
	if code != impl.ReadWell || at != 0 || told(q) != told(want) {
		t.Errorf("%q: %d at %d, %v, want %v", s, code, at, q, want)
	}
	if !impl.QueryOk(want) {
		t.Errorf("%v may not be", want)
	}
}

func TestEachKindOfElementIsReadAndWritten(t *testing.T) {
	x := has("x")
	for s, e := range map[string]impl.Elem{
		"?a <p> 1 . ":                              asked("?a", name("p"), number(1, 0)),
		"<a> ?p \"\" . ":                           asked(name("a"), "?p", text("")),
		"_:7 <p> _:8 . ":                           asked(blank(7), name("p"), blank(8)),
		"?a ?b ?c . ":                              asked("?a", "?b", "?c"),
		"<a> <b> <c> . ":                           asked(name("a"), name("b"), name("c")),
		"OPTIONAL { } ":                            optional(),
		"OPTIONAL { ?x <p> 1 . } ":                 optional(x...),
		"MINUS { ?x <p> 1 . } ":                    minus(x...),
		"UNION { } { } ":                           union(nil, nil),
		"UNION { ?x <p> 1 . } { ?y <p> 1 . } ":     union(x, has("y")),
		"UNION { UNION { } { MINUS { } } } { } ":   union(group(union(nil, group(minus()))), nil),
		"FILTER ?a ":                               filter(exVar("a")),
		"FILTER 0 ":                                filter(exTerm(number(0, 0))),
		"BIND ?a ?b ":                              bind(exVar("a"), "b"),
		"BIND IF ?a ?b ?c ?d ":                     bind(ex(impl.ExIf, exVar("a"), exVar("b"), exVar("c")), "d"),
		"VALUES ?v { } ":                           values("v"),
		"VALUES ?v { 1 <a> _:3 \"x\" 1 } ":         values("v", number(1, 0), name("a"), blank(3), text("x"), number(1, 0)),
		"OPTIONAL { OPTIONAL { VALUES ?v { } } } ": optional(optional(values("v"))),
	} {
		for text, q := range map[string]impl.Query{
			"ASK { " + s + "} ":                                  ask(e),
			"SELECT * WHERE { " + s + s + "} ":                   selectAll(e, e),
			"SELECT DISTINCT * WHERE { OPTIONAL { " + s + "} } ": {Distinct: true, Body: group(optional(e)), Limit: -1},
		} {
			if e.Kind == impl.ElBind && len(q.Body) == 2 {
				continue // told twice
			}
			checkQueryRead(t, text, q)
			if b, ok := impl.QueryText(q); !ok || string(b) != text {
				t.Errorf("%v: %q %v, want %q", q, b, ok, text)
			}
		}
	}
}

func TestEachKindOfExpressionIsReadAndWritten(t *testing.T) {
	a, b := exVar("a"), exVar("b")
	for s, e := range map[string]impl.Expr{
		"?a ": a, "<n> ": exTerm(name("n")), "_:0 ": exTerm(blank(0)), "\"x y\" ": exTerm(text("x y")), "-1.5 ": exTerm(number(-15, 1)), "\"\\\"\\\\\" ": exTerm(text("\"\\")),
		"BOUND ?a ": exBound("a"), "NOT ?a ": ex(impl.ExNot, a), "LEN ?a ": ex(impl.ExLen, a), "NOT NOT LEN BOUND ?a ": ex(impl.ExNot, ex(impl.ExNot, ex(impl.ExLen, exBound("a")))),
		"IF ?a ?b 1 ": ex(impl.ExIf, a, b, exTerm(number(1, 0))), "IF NOT ?a IF ?a ?a ?b ?b ": ex(impl.ExIf, ex(impl.ExNot, a), ex(impl.ExIf, a, a, b), b),
		"COAL { ?a } ": ex(impl.ExCoal, a), "COAL { ?a ?b ?a ?b } ": ex(impl.ExCoal, a, b, a, b), "COAL { COAL { ?a } NOT ?b } ": ex(impl.ExCoal, ex(impl.ExCoal, a), ex(impl.ExNot, b)),
		"( ?a + ?b ) ": exOp(impl.OpAdd, a, b), "( ?a - ?b ) ": exOp(impl.OpSub, a, b), "( ?a * ?b ) ": exOp(impl.OpMul, a, b), "( ?a / ?b ) ": exOp(impl.OpDiv, a, b),
		"( ?a < ?b ) ": exOp(impl.OpLess, a, b), "( ?a = ?b ) ": exOp(impl.OpSame, a, b), "( ?a & ?b ) ": exOp(impl.OpAnd, a, b), "( ?a | ?b ) ": exOp(impl.OpOr, a, b),
		"( ?a - -1 ) ": exOp(impl.OpSub, a, exTerm(number(-1, 0))), "( <a> < <b> ) ": exOp(impl.OpLess, exTerm(name("a")), exTerm(name("b"))),
		"( ( ?b + ?a ) * ( ?a - LEN ?b ) ) ": exOp(impl.OpMul, exOp(impl.OpAdd, b, a), exOp(impl.OpSub, a, ex(impl.ExLen, b))),
	} {
		for text, q := range map[string]impl.Query{
			"ASK { FILTER " + s + "} ":                      ask(filter(e)),
			"ASK { BIND " + s + "?v ?a ?b ?v . } ":          ask(bind(e, "v"), asked("?a", "?b", "?v")),
			"ASK { FILTER COAL { 1 " + s + "} MINUS { } } ": ask(filter(ex(impl.ExCoal, exTerm(number(1, 0)), e)), minus()),
		} {
			checkQueryRead(t, text, q)
			if b, ok := impl.QueryText(q); !ok || string(b) != text {
				t.Errorf("%v: %q %v, want %q", q, b, ok, text)
			}
		}
	}
}

func TestWhatStandsAroundABody(t *testing.T) {
	body := has("x", "y")
	const inside = "{ ?x <p> 1 . ?y <p> 1 . } "
	for s, q := range map[string]impl.Query{
		"ASK " + inside:                                                       ask(body...),
		"SELECT * WHERE " + inside:                                            selectAll(body...),
		"SELECT DISTINCT * WHERE " + inside:                                   {Distinct: true, Body: body, Limit: -1},
		"SELECT ?y ?x WHERE " + inside:                                        {Sels: []impl.Sel{plain("y"), plain("x")}, Body: body, Limit: -1},
		"SELECT ( COUNT ?y AS ?n ) WHERE " + inside:                           {Sels: []impl.Sel{count("y", "n")}, Body: body, Limit: -1},
		"SELECT DISTINCT ?x ( SUM ?y AS ?n ) WHERE " + inside + "GROUP ?x ":   {Distinct: true, Sels: []impl.Sel{plain("x"), total("y", "n")}, Body: body, Group: vars("x"), Limit: -1},
		"SELECT ?x WHERE " + inside + "GROUP ?y ?x ":                          {Sels: []impl.Sel{plain("x")}, Body: body, Group: vars("y", "x"), Limit: -1},
		"SELECT * WHERE " + inside + "ORDER ?y ":                              {Body: body, Order: []impl.Key{up("y")}, Limit: -1},
		"SELECT * WHERE " + inside + "ORDER - ?y ?x - ?x - ?y ":               {Body: body, Order: []impl.Key{down("y"), up("x"), down("x"), down("y")}, Limit: -1},
		"SELECT * WHERE " + inside + "LIMIT 0 ":                               {Body: body},
		"SELECT * WHERE " + inside + "LIMIT 999 ":                             {Body: body, Limit: 999},
		"SELECT * WHERE " + inside + "OFFSET 1 ":                              {Body: body, Limit: -1, Offset: 1},
		"SELECT * WHERE " + inside + "LIMIT 7 OFFSET 999 ":                    {Body: body, Limit: 7, Offset: 999},
		"SELECT ?x WHERE " + inside + "GROUP ?x ORDER - ?x LIMIT 1 OFFSET 2 ": {Sels: []impl.Sel{plain("x")}, Body: body, Group: vars("x"), Order: []impl.Key{down("x")}, Limit: 1, Offset: 2},
		"SELECT * WHERE " + inside + "ORDER ?x OFFSET 10 ":                    {Body: body, Order: []impl.Key{up("x")}, Limit: -1, Offset: 10},
	} {
		checkQueryRead(t, s, q)
		if b, ok := impl.QueryText(q); !ok || string(b) != s {
			t.Errorf("%v: %q %v, want %q", q, b, ok, s)
		}
	}
}

func TestTokensNeedNoBlanks(t *testing.T) {
	want := selectAll(asked("?x", name("p"), number(5, 0)), filter(exOp(impl.OpLess, exVar("x"), exTerm(number(5, 0)))), bind(exOp(impl.OpSub, exVar("x"), exTerm(number(-1, 0))), "y"))
	want.Order = []impl.Key{down("x")}
	for _, s := range []string{
		"SELECT*WHERE{?x<p>5.FILTER(?x<5)BIND(?x- -1)?y}ORDER-?x",
		"SELECT*WHERE{?x<p>5.FILTER(?x<5)BIND(?x--1)?y}ORDER-?x",
		"\nSELECT\n*\nWHERE\n{\n?x\n<p>\n5\n.\nFILTER\n(\n?x\n<\n5\n)\nBIND\n(\n?x\n-\n-1\n)\n?y\n}\nORDER\n-\n?x\n",
		"SELECT * WHERE { ?x <p> 5 . FILTER ( ?x < 5 ) BIND ( ?x - -1 ) ?y } ORDER - ?x",
	} {
		checkQueryRead(t, s, want)
	}
	checkQueryRefused(t,
		reading{"SELECT * WHERE{FILTER(?x -1)}", impl.ReadForm, 25}, // -1 is a number
		reading{"ASK{FILTER(?x<y>)}", impl.ReadForm, 13},            // <y> is a name
		reading{"ASK{FILTER(?x<y )}", impl.ReadByte, 14},
		reading{"ASKx{}", impl.ReadByte, 3}, reading{"ASKA{}", impl.ReadForm, 0})
	five := selectAll()
	five.Limit = 5
	checkQueryRead(t, "SELECT*WHERE{}LIMIT5", five)
}

func TestTextsWithoutOneToken(t *testing.T) {
	for _, s := range []string{"", " ", "\n", " \n \n  "} {
		checkQueryRefused(t, reading{s, impl.ReadForm, len(s)})
	}
}

const longText = "SELECT DISTINCT ?x ( COUNT ?y AS ?n ) ( SUM ?y AS ?m ) WHERE { ?x <p> ?y . OPTIONAL { _:1 ?q \"t\" . FILTER ( ?z < 5 ) } UNION { } { VALUES ?y { 1 <a> _:2 \"\" } } MINUS { BIND IF BOUND ?x NOT ?y LEN \"a\" ?b } BIND COAL { ?z ( ?x | 0 ) } ?c } GROUP ?x ?y ORDER - ?n ?x LIMIT 3 OFFSET 1"

func TestQueriesThatEndTooEarly(t *testing.T) {
	tokens := strings.Fields(longText)
	ends := map[string]bool{"GROUP": true, "ORDER": true, "LIMIT": true, "OFFSET": true}
	for i := range tokens {
		for _, gap := range []string{" ", "\n", "  \n"} {
			for _, end := range []string{"", " ", "\n\n "} {
				s := strings.Join(tokens[:i], gap) + end
				if ends[tokens[i]] || i > 0 && (tokens[i-1] == "?x" && i == len(tokens)-4 || tokens[i] == "?y" && tokens[i+1] == "ORDER" || tokens[i] == "?x" && tokens[i+1] == "LIMIT") {
					checkQueryAsMeant(t, s)
					continue
				}
				checkQueryRefused(t, reading{s, impl.ReadForm, len(s)})
			}
		}
	}
	if _, code, _ := impl.QueryRead([]byte(longText)); code != impl.ReadWell {
		t.Error(code)
	}
}

func TestQueryTokensThatCannotStandThere(t *testing.T) {
	all := []string{"ASK", "SELECT", "DISTINCT", "WHERE", "COUNT", "SUM", "AS", "OPTIONAL", "UNION", "MINUS", "FILTER", "BIND", "VALUES", "NOT", "LEN", "BOUND", "IF", "COAL", "GROUP", "ORDER", "LIMIT", "OFFSET", "OTHER", "A",
		".", "{", "}", "(", ")", "*", "+", "-", "/", "=", "<", "&", "|", "?x", "?new", "<a>", "_:3", "\"t\"", "0", "1", "999", "1000", "-1", "0.5"}
	tokens := strings.Fields(longText)
	var seen [4]int
	for i := range len(tokens) + 1 {
		for _, other := range all {
			with := append(append([]string{}, tokens[:i]...), other)
			seen[checkQueryAsMeant(t, strings.Join(append(with, tokens[i:]...), " "))]++
			if i < len(tokens) {
				seen[checkQueryAsMeant(t, strings.Join(append(with, tokens[i+1:]...), " "))]++
			}
		}
		if i < len(tokens) {
			seen[checkQueryAsMeant(t, strings.Join(append(append([]string{}, tokens[:i]...), tokens[i+1:]...), " "))]++
		}
	}
	if seen[impl.ReadWell] < 100 || seen[impl.ReadLong] < 20 || seen[impl.ReadForm] < 5000 {
		t.Errorf("%v shows too little", seen)
	}
}

func TestPlacesInQueries(t *testing.T) {
	const form = impl.ReadForm
	checkQueryRefused(t,
		reading{"FIND { }", form, 0}, reading{"{ }", form, 0}, reading{" select", impl.ReadByte, 1}, reading{"?x", form, 0}, reading{"5", form, 0},
		reading{"ASK ASK { }", form, 4}, reading{"ASK WHERE { }", form, 4}, reading{"ASK DISTINCT { }", form, 4}, reading{"ASK { } }", form, 8}, reading{"ASK { } { }", form, 8}, reading{"ASK { } .", form, 8}, reading{"ASK { { } }", form, 6},
		reading{"SELECT { }", form, 7}, reading{"SELECT DISTINCT WHERE { }", form, 16}, reading{"SELECT DISTINCT DISTINCT * WHERE { }", form, 16}, reading{"SELECT * DISTINCT WHERE { }", form, 9}, reading{"SELECT * ?x WHERE { }", form, 9}, reading{"SELECT ?x * WHERE { }", form, 10}, reading{"SELECT ?x { }", form, 10}, reading{"SELECT <x> WHERE { }", form, 7},
		reading{"SELECT ( ?x ) WHERE { }", form, 9}, reading{"SELECT ( LEN ?x AS ?n ) WHERE { }", form, 9}, reading{"SELECT ( COUNT * AS ?n ) WHERE { }", form, 15}, reading{"SELECT ( COUNT ?x ) WHERE { }", form, 18}, reading{"SELECT ( COUNT ?x ?n ) WHERE { }", form, 18}, reading{"SELECT ( COUNT ?x AS 5 ) WHERE { }", form, 21}, reading{"SELECT ( COUNT ?x AS ?n ?m ) WHERE { }", form, 24}, reading{"SELECT COUNT ?x AS ?n WHERE { }", form, 7},
		reading{"ASK { 5 <p> ?x . }", form, 6}, reading{"ASK { \"a\" <p> ?x . }", form, 6}, reading{"ASK { ?x _:1 ?y . }", form, 9}, reading{"ASK { ?x 5 ?y . }", form, 9}, reading{"ASK { ?x <p> . }", form, 13}, reading{"ASK { ?x <p> NOT . }", form, 13}, reading{"ASK { ?x <p> ?y ?z . }", form, 16}, reading{"ASK { ?x <p> ?y . . }", form, 18}, reading{"ASK { . }", form, 6},
		reading{"ASK { OPTIONAL ?x <p> 1 . }", form, 15}, reading{"ASK { MINUS }", form, 12}, reading{"ASK { UNION { } }", form, 16}, reading{"ASK { UNION { } { } { } }", form, 20}, reading{"ASK { FILTER }", form, 13}, reading{"ASK { FILTER { } }", form, 13}, reading{"ASK { BIND ?x }", form, 14}, reading{"ASK { BIND ?x 5 }", form, 14}, reading{"ASK { BIND ?x AS ?y }", form, 14},
		reading{"ASK { VALUES { 1 } }", form, 13}, reading{"ASK { VALUES ?v 1 }", form, 16}, reading{"ASK { VALUES ?v { ?x } }", form, 18}, reading{"ASK { VALUES ?v { 1 . } }", form, 20}, reading{"ASK { VALUES ?v { ( 1 ) } }", form, 18},
		reading{"ASK { FILTER ( ) }", form, 15}, reading{"ASK { FILTER ( ?x + ) }", form, 20}, reading{"ASK { FILTER ( ?x ?y ) }", form, 18}, reading{"ASK { FILTER ( ?x + ?y + ?z ) }", form, 23}, reading{"ASK { FILTER ( ?x . ?y ) }", form, 18}, reading{"ASK { FILTER ( ?x ( ?y ) }", form, 18}, reading{"ASK { FILTER ( ?x AND ?y ) }", form, 18}, reading{"ASK { FILTER ?x + ?y }", form, 16},
		reading{"ASK { FILTER NOT }", form, 17}, reading{"ASK { FILTER BOUND 5 }", form, 19}, reading{"ASK { FILTER BOUND NOT ?x }", form, 19}, reading{"ASK { FILTER BOUND ( ?x ) }", form, 19}, reading{"ASK { FILTER IF ?x ?y }", form, 22}, reading{"ASK { FILTER COAL ?x }", form, 18}, reading{"ASK { FILTER COAL { } ?x }", form, 20}, reading{"ASK { FILTER COUNT ?x }", form, 13},
		reading{"SELECT * WHERE { } GROUP", form, 24}, reading{"SELECT * WHERE { } GROUP LIMIT 5", form, 25}, reading{"SELECT * WHERE { } GROUP - ?x", form, 25}, reading{"SELECT * WHERE { } GROUP BY ?x", form, 25}, reading{"SELECT * WHERE { } ORDER", form, 24}, reading{"SELECT * WHERE { } ORDER OFFSET 5", form, 25}, reading{"SELECT * WHERE { } ORDER - - ?x", form, 27}, reading{"SELECT * WHERE { } ORDER ?x - LIMIT 5", form, 30}, reading{"SELECT * WHERE { } ORDER + ?x", form, 25},
		reading{"SELECT * WHERE { } ORDER ?x GROUP ?x", form, 28}, reading{"SELECT * WHERE { } LIMIT 5 ORDER ?x", form, 27}, reading{"SELECT * WHERE { } OFFSET 5 LIMIT 5", form, 28}, reading{"SELECT * WHERE { } LIMIT 5 LIMIT 5", form, 27}, reading{"SELECT * WHERE { } LIMIT 5 6", form, 27}, reading{"SELECT * WHERE { } OFFSET 5 OFFSET 5", form, 28},
		reading{"SELECT * WHERE { } LIMIT", form, 24}, reading{"SELECT * WHERE { } LIMIT ?x", form, 25}, reading{"SELECT * WHERE { } LIMIT -1", form, 25}, reading{"SELECT * WHERE { } LIMIT 1000", form, 25}, reading{"SELECT * WHERE { } LIMIT 0.5", form, 25}, reading{"SELECT * WHERE { } LIMIT \"5\"", form, 25}, reading{"SELECT * WHERE { } LIMIT _:5", form, 25}, reading{"SELECT * WHERE { } LIMIT - 5", form, 25}, reading{"SELECT * WHERE { } LIMIT 99999999999999", form, 25}, reading{"SELECT * WHERE { } LIMIT <a>", form, 25},
		reading{"SELECT * WHERE { } OFFSET 0", form, 26}, reading{"SELECT * WHERE { } OFFSET -1", form, 26}, reading{"SELECT * WHERE { } OFFSET 1000", form, 26}, reading{"SELECT * WHERE { } OFFSET 1.5", form, 26}, reading{"SELECT * WHERE { } LIMIT 5 OFFSET 0", form, 34},
	)
}

func TestWhichQueryReasonCounts(t *testing.T) {
	wide := strings.Repeat(" ", 2001)
	checkQueryRefused(t,
		// More bytes than may be, ahead of all else.
		reading{"ASK é" + wide, impl.ReadLong, 0}, reading{"FIND" + wide, impl.ReadLong, 0}, reading{wide, impl.ReadLong, 0}, reading{"ASK { }" + wide, impl.ReadLong, 0}, reading{wide[:1995] + "ASK { }", impl.ReadLong, 0},
		// What is no token, ahead of tokens that can't stand there, wherever they lie; of several the first.
		reading{"FIND { ?X }", impl.ReadByte, 7}, reading{"ASK { } } 007", impl.ReadByte, 10}, reading{"ASK { ?x . 01 02 } \"", impl.ReadByte, 11}, reading{"ASK { ?x ?X ?Y", impl.ReadByte, 9}, reading{"ASK { FILTER 1.0 } ,", impl.ReadByte, 13}, reading{"ASK { <A> <p> 1 . }", impl.ReadByte, 8}, reading{"ASK { ?x <p> 1000000000000001 . }", impl.ReadByte, 13}, reading{"ASK { ?aaaaaaaaaaaaa <p> 1 . }", impl.ReadByte, 6},
		// Of tokens that can't stand there the first, too.
		reading{"ASK } }", impl.ReadForm, 4}, reading{"ASK { ?x ?y . ?z LIMIT }", impl.ReadForm, 12},
		// That something can't stand there counts ahead of what is no query.
		reading{"SELECT ?y WHERE { ?x <p> 1 . } }", impl.ReadForm, 31}, reading{"SELECT ?y WHERE { } LIMIT 5 ?x", impl.ReadForm, 28}, reading{"ASK { ?v <p> 1 . BIND 1 ?v . }", impl.ReadForm, 27}, reading{"ASK { FILTER COAL { 1 2 3 4 5 } ", impl.ReadForm, 32},
	)
}

func TestTextsOfWhatIsNoQuery(t *testing.T) {
	deep := func(count int) string {
		return "ASK { " + strings.Repeat("OPTIONAL { ", count) + strings.Repeat("} ", count) + "}"
	}
	nots := func(count int) string { return "ASK { FILTER " + strings.Repeat("NOT ", count) + "?x }" }
	for s, code := range map[string]int{
		"SELECT ?y WHERE { ?x <p> 1 . }":                             impl.ReadLong,
		"SELECT ?x ?x WHERE { ?x <p> 1 . }":                          impl.ReadLong,
		"SELECT ( COUNT ?x AS ?x ) WHERE { ?x <p> 1 . }":             impl.ReadLong,
		"SELECT ( COUNT ?n AS ?m ) WHERE { ?x <p> 1 . }":             impl.ReadLong,
		"SELECT ?x ( COUNT ?x AS ?n ) WHERE { ?x <p> 1 . }":          impl.ReadLong,
		"SELECT ?x ( COUNT ?x AS ?n ) WHERE { ?x <p> 1 . } GROUP ?x": impl.ReadWell,
		"SELECT * WHERE { ?x <p> 1 . } GROUP ?x":                     impl.ReadLong,
		"SELECT ?x WHERE { ?x <p> 1 . } GROUP ?x ?x":                 impl.ReadLong,
		"SELECT ?x WHERE { ?x <p> ?y . } ORDER ?y":                   impl.ReadLong,
		"SELECT * WHERE { ?x <p> ?y . } ORDER ?y ?y ?y ?y":           impl.ReadWell,
		"SELECT * WHERE { ?x <p> ?y . } ORDER ?y ?y ?y ?y ?y":        impl.ReadLong,
		"SELECT * WHERE { } ORDER ?y":                                impl.ReadLong,
		"ASK { ?v <p> 1 . BIND 1 ?v }":                               impl.ReadLong,
		"ASK { BIND 1 ?v ?v <p> 1 . }":                               impl.ReadWell,
		"ASK { FILTER COAL { 1 2 3 4 } }":                            impl.ReadWell,
		"ASK { FILTER COAL { 1 2 3 4 5 } }":                          impl.ReadLong,
		"ASK { VALUES ?v { 1 2 3 4 5 6 7 8 } }":                      impl.ReadWell,
		"ASK { VALUES ?v { 1 2 3 4 5 6 7 8 9 } }":                    impl.ReadLong,
		"ASK { ?a ?b ?c . ?d ?e ?f . ?g ?h ?a . }":                   impl.ReadWell,
		"ASK { ?a ?b ?c . ?d ?e ?f . ?g ?h ?i . }":                   impl.ReadLong,
		deep(10):  impl.ReadWell,
		deep(11):  impl.ReadLong,
		deep(140): impl.ReadLong,
		nots(8):   impl.ReadWell,
		nots(9):   impl.ReadLong,
		nots(490): impl.ReadLong,
		"ASK{" + strings.Repeat("?a?a?a.", 120) + "}":                                    impl.ReadWell,
		"ASK{" + strings.Repeat("?a?a?a.", 121) + "}":                                    impl.ReadLong,
		"ASK{FILTER" + strings.Repeat("(", 490) + "1" + strings.Repeat("+1)", 490) + "}": impl.ReadLong,
		// What can stand behind a body stands behind ASK's, too, but makes no query there.
		"ASK { ?x <p> 1 . } GROUP ?x": impl.ReadLong, "ASK { ?x <p> 1 . } ORDER ?x": impl.ReadLong, "ASK { } LIMIT 5": impl.ReadLong, "ASK { } LIMIT 0": impl.ReadLong, "ASK { } OFFSET 5": impl.ReadLong,
	} {
		if code != impl.ReadWell {
			checkQueryRefused(t, reading{s, code, 0})
		}
		if got := checkQueryAsMeant(t, s); got != code {
			t.Errorf("%q: %d, want %d", s, got, code)
		}
	}
}

func TestLongQueryTexts(t *testing.T) {
	for _, size := range []int{1999, 2000} {
		b, ok := impl.QueryText(ask(longBody(size)...))
		if !ok || len(b) != size {
			t.Fatal(len(b), ok)
		}
		checkQueryRead(t, string(b), ask(longBody(size)...))
	}
	b, _ := impl.QueryText(ask(longBody(2000)...))
	checkQueryRefused(t, reading{string(b) + " ", impl.ReadLong, 0}, reading{"\n" + string(b), impl.ReadLong, 0})
	checkQueryRead(t, string(b[:1999]), ask(longBody(2000)...))
	checkQueryRead(t, "\n"+string(b[:1999]), ask(longBody(2000)...))
	for _, size := range []int{1999, 2000, 2001} {
		s := "ASK { }" + strings.Repeat(" ", size-7)
		if size <= 2000 {
			checkQueryRead(t, s, ask())
			checkQueryRead(t, s[7:]+s[:7], ask())
			checkQueryRefused(t, reading{"ASK { " + strings.Repeat(" ", size-6), impl.ReadForm, size}, reading{s[:size-1] + ",", impl.ReadByte, size - 1})
			continue
		}
		checkQueryRefused(t, reading{s, impl.ReadLong, 0}, reading{s[:size-1] + ",", impl.ReadLong, 0})
	}
	// A text without blanks may be short enough where the query's own is not.
	dense := strings.ReplaceAll(strings.Join(meantTokens(ask(longBody(2001)...)), " "), "\" \"", "\"\"")
	checkQueryRefused(t, reading{dense, impl.ReadLong, 0})
	if len(dense) > 2000 {
		t.Error(len(dense))
	}
}

func TestBlanksAroundAQuery(t *testing.T) {
	source := rand.New(rand.NewSource(43))
	gap := func() string {
		s := ""
		for range source.Intn(5) {
			s += pick(source, " ", "\n")
		}
		return s
	}
	texts := []string{longText, "ASK { }", "ASK { ?x ?p ?y }", "SELECT WHERE { }", "ASK { ?X }", "", "SELECT ?y WHERE { }", "ASK { FILTER", "ASK { } \"x", "SELECT * WHERE { } LIMIT", "SELECT * WHERE { } OFFSET 0"}
	for range 2000 {
		s := pick(source, texts...)
		q, code, at := impl.QueryRead([]byte(s))
		ahead, behind := gap(), gap()
		again, againCode, againAt := impl.QueryRead([]byte(ahead + s + behind))
		switch {
		case code == impl.ReadForm && at == len(s):
			at += len(ahead) + len(behind)
		case code == impl.ReadForm || code == impl.ReadByte:
			at += len(ahead)
		}
		if againCode != code || againAt != at || told(again) != told(q) {
			t.Fatalf("%q: %d at %d, %v; want %d at %d, %v", ahead+s+behind, againCode, againAt, again, code, at, q)
		}
	}
}

func TestQueriesComeBackFromTheirTexts(t *testing.T) {
	source := rand.New(rand.NewSource(44))
	seen, refused := 0, 0
	for range 10000 {
		q := maker{source, someNames(source), 0}.query()
		s := strings.Join(meantTokens(q), " ")
		if _, ok := meantVars(q); !ok {
			if len(s) <= 2000 {
				refused++
				checkQueryRefused(t, reading{s, impl.ReadLong, 0})
			}
			continue
		}
		seen++
		b, ok := impl.QueryText(q)
		if !ok || string(b) != s+" " {
			t.Fatalf("%v: %q %v, want %q", q, b, ok, s)
		}
		checkQueryRead(t, s, q)
		if room := 2000 - len(b); room >= 6 {
			checkQueryRead(t, "\n  "+string(b)+" \n ", q)
		}
	}
	if seen < 3000 || refused < 500 {
		t.Errorf("%d and %d show too little", seen, refused)
	}
}

func TestQueryReadingAsMeant(t *testing.T) {
	source := rand.New(rand.NewSource(45))
	tokens := []string{"ASK", "SELECT", "DISTINCT", "WHERE", "COUNT", "SUM", "AS", "OPTIONAL", "UNION", "MINUS", "FILTER", "BIND", "VALUES", "NOT", "LEN", "BOUND", "IF", "COAL", "GROUP", "ORDER", "LIMIT", "OFFSET", "WORD",
		".", "{", "}", "(", ")", "*", "+", "-", "/", "=", "<", "&", "|", "?a", "?b", "<a>", "_:3", "\"t\"", "0", "7", "-1", "0.5", "?A", "01", "a", "\"", "_"}
	var seen [4]int
	for range 12000 {
		q := maker{source, someNames(source)[:1], 0}.query()
		words := meantTokens(q)
		for range source.Intn(3) {
			i := source.Intn(len(words))
			switch source.Intn(3) {
			case 0:
				words = append(words[:i:i], words[i+source.Intn(2):]...)
			case 1:
				words = append(words[:i:i], append([]string{pick(source, tokens...)}, words[i:]...)...)
			case 2:
				words[i] = pick(source, tokens...)
			}
			if len(words) == 0 {
				break
			}
		}
		s := ""
		for _, w := range words {
			s += w + pick(source, " ", " ", " ", "\n", "")
		}
		seen[checkQueryAsMeant(t, s)]++
	}
	if seen[impl.ReadWell] < 1000 || seen[impl.ReadLong] < 200 || seen[impl.ReadByte] < 1000 || seen[impl.ReadForm] < 1000 {
		t.Errorf("%v shows too little", seen)
	}
}

func TestShortTextsOfAllTokens(t *testing.T) {
	tokens := []string{"ASK", "SELECT", "WHERE", "{", "}", "*", "?a", "FILTER", "NOT", "1", "(", ")", "-", "ORDER", "LIMIT", "."}
	var walk func(words []string, left int)
	walk = func(words []string, left int) {
		checkQueryAsMeant(t, strings.Join(words, " "))
		if left == 0 {
			return
		}
		for _, w := range tokens {
			walk(append(words[:len(words):len(words)], w), left-1)
		}
	}
	walk(nil, 3)
	walk([]string{"ASK", "{"}, 3)
	walk([]string{"SELECT", "*", "WHERE", "{", "}"}, 3)
}

// span is what a list holds, up to the end of its spare room.
type span struct {
	from uintptr
	to   uintptr
}

// spansOf finds the memory of all lists in a value.
func spansOf(v reflect.Value) []span {
	var out []span
	switch v.Kind() {
	case reflect.Struct:
		for i := range v.NumField() {
			out = append(out, spansOf(v.Field(i))...)
		}
	case reflect.Slice:
		if v.Cap() > 0 {
			out = append(out, span{v.Pointer(), v.Pointer() + uintptr(v.Cap())*v.Type().Elem().Size()})
		}
		for i := range v.Len() {
			out = append(out, spansOf(v.Index(i))...)
		}
	}
	return out
}

// checkOwnMemory wants that no two lists of these values share any.
func checkOwnMemory(t *testing.T, all ...any) {
	t.Helper()
	var spans []span
	for _, x := range all {
		spans = append(spans, spansOf(reflect.ValueOf(x))...)
	}
	for i, a := range spans {
		for _, b := range spans[:i] {
			if a.from < b.to && b.from < a.to {
				t.Fatalf("two lists of %v share memory", all)
			}
		}
	}
}

func TestQueriesAreNewMemory(t *testing.T) {
	source := rand.New(rand.NewSource(46))
	given := []byte(longText)
	q, _, _ := impl.QueryRead(given)
	again, _, _ := impl.QueryRead(given)
	b, _ := impl.QueryText(q)
	checkOwnMemory(t, given, q, again, b, impl.Vars(q), impl.Vars(q))
	for range 300 {
		m := maker{source, someNames(source), 0}
		q, code, _ := impl.QueryRead([]byte(strings.Join(meantTokens(m.query()), " ")))
		if code == impl.ReadWell {
			b, _ := impl.QueryText(q)
			checkOwnMemory(t, q, b, impl.Vars(q))
		}
	}
}

// withSpare is a copy whose lists all have room behind them, with something in it.
func withSpare(v reflect.Value) reflect.Value {
	out := reflect.New(v.Type()).Elem()
	switch v.Kind() {
	case reflect.Struct:
		for i := range v.NumField() {
			out.Field(i).Set(withSpare(v.Field(i)))
		}
	case reflect.Slice:
		list := reflect.MakeSlice(v.Type(), v.Len()+2, v.Len()+2)
		for i := range v.Len() {
			list.Index(i).Set(withSpare(v.Index(i)))
		}
		for i := v.Len(); i < list.Len(); i++ {
			if list.Index(i).Kind() == reflect.Uint8 {
				list.Index(i).SetUint('x')
			} else if v.Len() > 0 {
				list.Index(i).Set(withSpare(v.Index(0)))
			}
		}
		out.Set(list.Slice(0, v.Len()))
	default:
		out.Set(v)
	}
	return out
}

// wholly tells a value with what lies behind its lists.
func wholly(v reflect.Value) string {
	switch v.Kind() {
	case reflect.Struct:
		out := ""
		for i := range v.NumField() {
			out += wholly(v.Field(i)) + ","
		}
		return "{" + out + "}"
	case reflect.Slice:
		out := fmt.Sprint(v.Len(), ":")
		for i := range v.Cap() {
			out += wholly(v.Slice(0, v.Cap()).Index(i)) + ","
		}
		return "[" + out + "]"
	}
	return fmt.Sprint(v.Interface())
}

func TestQueryArgumentsAreLeftAlone(t *testing.T) {
	source := rand.New(rand.NewSource(47))
	for range 300 {
		made := maker{source, someNames(source), pick(source, 0, 30)}.query()
		q := withSpare(reflect.ValueOf(made)).Interface().(impl.Query)
		before := wholly(reflect.ValueOf(q))
		ok := impl.QueryOk(q)
		b, _ := impl.QueryText(q)
		list := impl.Vars(q)
		if wholly(reflect.ValueOf(q)) != before {
			t.Fatalf("%v is not what it was", q)
		}
		plainText, _ := impl.QueryText(made)
		if ok != impl.QueryOk(made) || !bytes.Equal(b, plainText) || tellVars(list) != tellVars(impl.Vars(made)) {
			t.Fatalf("%v: what lies behind its lists plays a part", made)
		}
		checkOwnMemory(t, q, b, list)
	}
	given := append([]byte(longText), " } } }"...)
	keep := bytes.Clone(given)
	impl.QueryRead(given[:len(longText)])
	if !bytes.Equal(given, keep) {
		t.Error("a text is not what it was")
	}
}
