package tests

import (
	"fmt"
	"math"
	"math/rand"
	"reflect"
	"strings"
	"testing"

	"loop.example/g00347/impl"
)

func alBgp(pats ...impl.Pat) impl.Alg { return impl.Alg{Kind: impl.AlBgp, Pats: pats} }

// alHas has for each variable the pattern that has makes of it.
func alHas(vars ...string) impl.Alg {
	var a impl.Alg
	for _, e := range has(vars...) {
		a.Pats = append(a.Pats, e.Pat)
	}
	return a
}

func alPair(kind int, a impl.Alg, b impl.Alg) impl.Alg {
	return impl.Alg{Kind: kind, Kids: []impl.Alg{a, b}}
}

func alJoin(a impl.Alg, b impl.Alg) impl.Alg { return alPair(impl.AlJoin, a, b) }

func alLeft(a impl.Alg, b impl.Alg, e impl.Expr) impl.Alg {
	return impl.Alg{Kind: impl.AlLeft, Expr: e, Kids: []impl.Alg{a, b}}
}

func alFilter(a impl.Alg, e impl.Expr) impl.Alg {
	return impl.Alg{Kind: impl.AlFilter, Expr: e, Kids: []impl.Alg{a}}
}

func alExtend(a impl.Alg, v string, e impl.Expr) impl.Alg {
	return impl.Alg{Kind: impl.AlExtend, Var: []byte(v), Expr: e, Kids: []impl.Alg{a}}
}

func alRows(v string, terms ...impl.Term) impl.Alg {
	return impl.Alg{Kind: impl.AlRows, Var: []byte(v), Terms: terms}
}

// keptAlg has of an operation what its kind has by the document, but for Kids, and its Kind.
func keptAlg(a impl.Alg) impl.Alg {
	switch a.Kind {
	case 0:
		return impl.Alg{Pats: a.Pats}
	case 2, 5:
		return impl.Alg{Kind: a.Kind, Expr: a.Expr}
	case 6:
		return impl.Alg{Kind: 6, Expr: a.Expr, Var: a.Var}
	case 7:
		return impl.Alg{Kind: 7, Var: a.Var, Terms: a.Terms}
	}
	return impl.Alg{Kind: a.Kind}
}

// tellAlg writes an algebra; a pattern that has makes is its variable alone.
func tellAlg(a impl.Alg) string {
	var kids, pats, terms []string
	for _, kid := range a.Kids {
		kids = append(kids, tellAlg(kid))
	}
	for _, p := range a.Pats {
		s := itemToken(p.S) + " " + itemToken(p.P) + " " + itemToken(p.O)
		pats = append(pats, strings.TrimPrefix(strings.TrimSuffix(s, " <p> 1"), "?"))
	}
	for _, x := range a.Terms {
		terms = append(terms, string(impl.Show(x)))
	}
	expr := func() string { return strings.Join(exprTokens(a.Expr), " ") }
	switch a.Kind {
	case 0:
		return "[" + strings.Join(pats, ", ") + "]"
	case 2, 5:
		kids = append(kids, expr())
	case 6:
		kids = append(kids, "?"+string(a.Var), expr())
	case 7:
		kids = append(kids, "?"+string(a.Var), strings.Join(terms, " "))
	}
	return []string{"", "join", "left", "union", "minus", "filter", "extend", "rows"}[a.Kind] + "(" + strings.Join(kids, ", ") + ")"
}

// meantAlg is a group's algebra by the document's words.
func meantAlg(list []impl.Elem) impl.Alg {
	var rest []impl.Elem
	var asks []impl.Expr
	for _, e := range list {
		if e.Kind == impl.ElFilter {
			asks = append(asks, e.Expr)
		} else {
			rest = append(rest, e)
		}
	}
	g := meantRest(rest)
	for i, e := range asks {
		if i == 0 {
			g = alFilter(g, e)
		} else {
			g.Expr = exOp(impl.OpAnd, g.Expr, e)
		}
	}
	return g
}

func meantRest(list []impl.Elem) impl.Alg {
	if len(list) == 0 {
		return alBgp()
	}
	g, e := meantRest(list[:len(list)-1]), list[len(list)-1]
	switch e.Kind {
	case impl.ElTriple:
		return meantAnd(g, alBgp(e.Pat))
	case impl.ElOptional:
		a := meantAlg(e.A)
		if a.Kind == impl.AlFilter {
			return alLeft(g, a.Kids[0], a.Expr)
		}
		return alLeft(g, a, exTerm(number(1, 0)))
	case impl.ElUnion:
		return meantAnd(g, alPair(impl.AlUnion, meantAlg(e.A), meantAlg(e.B)))
	case impl.ElMinus:
		return alPair(impl.AlMinus, g, meantAlg(e.A))
	case impl.ElBind:
		return alExtend(g, string(e.Var), e.Expr)
	}
	return meantAnd(g, alRows(string(e.Var), e.Terms...))
}

func meantAnd(g impl.Alg, next impl.Alg) impl.Alg {
	isPatterns := g.Kind == impl.AlBgp
	if isPatterns && len(g.Pats) == 0 {
		return next
	}
	if isPatterns && next.Kind == impl.AlBgp {
		return alBgp(append(append([]impl.Pat{}, g.Pats...), next.Pats...)...)
	}
	return alJoin(g, next)
}

// algMeaning is a walk over an algebra by the document's words.
type algMeaning struct {
	meaning
	deepAlg int
}

func (m *algMeaning) alg(a impl.Alg, depth int) {
	m.nodes += 1 + len(a.Pats)
	m.deepAlg = max(m.deepAlg, depth)
	alone := a
	alone.Kids = nil // they are asked by themselves
	m.want(a.Kind >= 0 && a.Kind <= 7 && told(alone) == told(keptAlg(alone)))
	kids := map[int]int{1: 2, 2: 2, 3: 2, 4: 2, 5: 1, 6: 1}[a.Kind]
	m.want(len(a.Kids) == kids && len(a.Pats) <= 120 && len(a.Terms) <= 8)
	for _, p := range a.Pats {
		m.item(p.S, "01")
		m.item(p.P, "0")
		m.item(p.O, "0123")
	}
	for _, x := range a.Terms {
		m.want(impl.TermOk(x))
	}
	switch a.Kind {
	case impl.AlLeft, impl.AlFilter, impl.AlExtend:
		m.expr(a.Expr, 1)
	}
	if a.Kind == impl.AlExtend || a.Kind == impl.AlRows {
		m.variable(a.Var)
	}
	for _, kid := range a.Kids {
		m.alg(kid, depth+1)
	}
}

func walkAlg(a impl.Alg) *algMeaning {
	m := &algMeaning{}
	m.alg(a, 1)
	return m
}

func isMeantAlg(a impl.Alg) bool {
	m := walkAlg(a)
	return !m.wrong && m.nodes <= 480 && m.deepAlg <= 240 && m.deep <= 120 && len(m.vars) <= 8
}

func checkAlgOk(t *testing.T, what string, a impl.Alg, want bool) {
	t.Helper()
	if impl.AlgOk(a) != want {
		t.Errorf("%s: AlgOk is %v", what, !want)
	}
}

// checkWithin asks of an operation by itself and as a Kid of each kind.
func checkWithin(t *testing.T, what string, a impl.Alg, want bool) {
	t.Helper()
	one := exTerm(number(1, 0))
	checkAlgOk(t, what, a, want)
	for kind := impl.AlJoin; kind <= impl.AlMinus; kind++ {
		first, second := alPair(kind, a, alBgp()), alPair(kind, alBgp(), a)
		if kind == impl.AlLeft {
			first.Expr, second.Expr = one, one
		}
		checkAlgOk(t, fmt.Sprint(what, ", first Kid of kind ", kind), first, want)
		checkAlgOk(t, fmt.Sprint(what, ", second Kid of kind ", kind), second, want)
	}
	checkAlgOk(t, what+", asked", alFilter(a, one), want)
	checkAlgOk(t, what+", told", alExtend(a, "a", one), want)
	checkAlgOk(t, what+", far below", alExtend(alJoin(alBgp(), alFilter(alPair(impl.AlUnion, alRows("a"), a), one)), "a", one), want)
}

// checkAlg holds the algebra of ASK with such a group against a writing.
func checkAlg(t *testing.T, s string, want string) {
	t.Helper()
	q, code, at := impl.QueryRead([]byte("ASK { " + s + " }"))
	a, ok := impl.Algebra(q)
	if code != impl.ReadWell || !ok {
		t.Fatalf("%s: %v, read with %d at %d", s, ok, code, at)
	}
	if got := tellAlg(a); got != want || !isMeantAlg(a) || !impl.AlgOk(a) {
		t.Errorf("%s: %s, want %s, AlgOk %v", s, got, want, impl.AlgOk(a))
	}
}

// checkPromise wants the algebra that is meant, AlgOk.
func checkPromise(t *testing.T, what string, q impl.Query) impl.Alg {
	t.Helper()
	a, ok := impl.Algebra(q)
	if want := meantAlg(q.Body); !ok || told(a) != told(want) {
		t.Fatalf("%s: %v, %v, want %v", what, ok, a, want)
	}
	if !impl.AlgOk(a) {
		t.Fatalf("%s: %s is not AlgOk", what, tellAlg(a))
	}
	return a
}

func TestAlgebraConstants(t *testing.T) {
	got := []int{impl.AlBgp, impl.AlJoin, impl.AlLeft, impl.AlUnion, impl.AlMinus, impl.AlFilter, impl.AlExtend, impl.AlRows}
	for want := range got {
		if got[want] != want {
			t.Errorf("constant %d: %d", want, got[want])
		}
	}
}

func TestAlgebraOfWhatIsNoQuery(t *testing.T) {
	late := selectAll(has("x")...)
	late.Limit = 1000
	sold := selectAll(has("x")...)
	sold.Sels = []impl.Sel{plain("y")}
	limited := ask(has("x")...)
	limited.Limit = 5
	own := []impl.Elem{optional()}
	own[0].A = own
	for what, q := range map[string]impl.Query{
		"an element is none": ask(impl.Elem{}), "a Kind beyond": ask(impl.Elem{Kind: 7}), "FILTER without Expr": ask(impl.Elem{Kind: impl.ElFilter}),
		"9 variables": ask(has("a", "b", "c", "d", "e", "f", "g", "h", "i")...), "121 elements": ask(repeated(121, optional())...), "bound ahead": ask(append(has("v"), bind(exVar("a"), "v"))...),
		"too long": ask(longBody(2001)...), "Limit": late, "a variable that is not there": sold, "ASK with a Limit": limited, "ASK without -1": {Ask: true}, "a list that holds itself": ask(own...),
	} {
		a, ok := impl.Algebra(q)
		if ok || told(a) != told(impl.Alg{}) {
			t.Errorf("%s: %v, %v", what, a, ok)
		}
	}
}

func TestAlgebraAsksForBodyAlone(t *testing.T) {
	q := selectAll(append(has("a", "b"), filter(exVar("a")))...)
	want := told(meantAlg(q.Body))
	for what, lay := range map[string]func(*impl.Query){
		"nothing": func(*impl.Query) {}, "Ask": func(q *impl.Query) { q.Ask = true }, "Distinct": func(q *impl.Query) { q.Distinct = true }, "Limit": func(q *impl.Query) { q.Limit = 0 },
		"Offset": func(q *impl.Query) { q.Offset = 3 }, "Order": func(q *impl.Query) { q.Order = []impl.Key{down("b")} }, "Sels": func(q *impl.Query) { q.Sels = []impl.Sel{plain("b")} },
		"Group": func(q *impl.Query) { q.Sels, q.Group = []impl.Sel{count("a", "n")}, vars("b") },
	} {
		own := q
		lay(&own)
		if a, ok := impl.Algebra(own); !ok || told(a) != want {
			t.Errorf("%s: %v, %v, want %s", what, a, ok, want)
		}
	}
	if a, ok := impl.Algebra(impl.Query{}); !ok || told(a) != told(alBgp()) {
		t.Errorf("the zero value: %v, %v", a, ok)
	}
}

func TestEachKindOfElementAsTheFirst(t *testing.T) {
	for s, want := range map[string]string{
		"":                                    "[]",
		"?a <p> 1 .":                          "[a]",
		"<s> ?a \"t\" .":                      "[<s> ?a \"t\"]",
		"_:1 <q> ?a .":                        "[_:1 <q> ?a]",
		"OPTIONAL { ?a <p> 1 . }":             "left([], [a], 1)",
		"UNION { ?a <p> 1 . } { ?b <p> 1 . }": "union([a], [b])",
		"MINUS { ?a <p> 1 . }":                "minus([], [a])",
		"FILTER ?a":                           "filter([], ?a)",
		"BIND ?a ?b":                          "extend([], ?b, ?a)",
		"BIND ( ?a + 1 ) ?a":                  "extend([], ?a, ( ?a + 1 ))",
		"VALUES ?a { 1 <b> \"c\" 1 }":         "rows(?a, 1 <b> \"c\" 1)",
		"VALUES ?a { }":                       "rows(?a, )",
	} {
		checkAlg(t, s, want)
	}
}

// pairs has, for an element that is there already, the algebra with each kind of element behind it.
var pairs = map[string][7]string{
	"?a <p> 1 .":               {"[a, t]", "left([a], [o], 1)", "join([a], union([u], []))", "minus([a], [m])", "filter([a], ?f)", "extend([a], ?b, 2)", "join([a], rows(?v, 3))"},
	"OPTIONAL { ?a <p> 1 . }":  {"join(left([], [a], 1), [t])", "left(left([], [a], 1), [o], 1)", "join(left([], [a], 1), union([u], []))", "minus(left([], [a], 1), [m])", "filter(left([], [a], 1), ?f)", "extend(left([], [a], 1), ?b, 2)", "join(left([], [a], 1), rows(?v, 3))"},
	"UNION { } { ?a <p> 1 . }": {"join(union([], [a]), [t])", "left(union([], [a]), [o], 1)", "join(union([], [a]), union([u], []))", "minus(union([], [a]), [m])", "filter(union([], [a]), ?f)", "extend(union([], [a]), ?b, 2)", "join(union([], [a]), rows(?v, 3))"},
	"MINUS { ?a <p> 1 . }":     {"join(minus([], [a]), [t])", "left(minus([], [a]), [o], 1)", "join(minus([], [a]), union([u], []))", "minus(minus([], [a]), [m])", "filter(minus([], [a]), ?f)", "extend(minus([], [a]), ?b, 2)", "join(minus([], [a]), rows(?v, 3))"},
	"FILTER ?a":                {"filter([t], ?a)", "filter(left([], [o], 1), ?a)", "filter(union([u], []), ?a)", "filter(minus([], [m]), ?a)", "filter([], ( ?a & ?f ))", "filter(extend([], ?b, 2), ?a)", "filter(rows(?v, 3), ?a)"},
	"BIND ?a ?c":               {"join(extend([], ?c, ?a), [t])", "left(extend([], ?c, ?a), [o], 1)", "join(extend([], ?c, ?a), union([u], []))", "minus(extend([], ?c, ?a), [m])", "filter(extend([], ?c, ?a), ?f)", "extend(extend([], ?c, ?a), ?b, 2)", "join(extend([], ?c, ?a), rows(?v, 3))"},
	"VALUES ?a { 1 }":          {"join(rows(?a, 1), [t])", "left(rows(?a, 1), [o], 1)", "join(rows(?a, 1), union([u], []))", "minus(rows(?a, 1), [m])", "filter(rows(?a, 1), ?f)", "extend(rows(?a, 1), ?b, 2)", "join(rows(?a, 1), rows(?v, 3))"},
}

func TestEachKindOfElementBehindEachOther(t *testing.T) {
	behind := []string{"?t <p> 1 .", "OPTIONAL { ?o <p> 1 . }", "UNION { ?u <p> 1 . } { }", "MINUS { ?m <p> 1 . }", "FILTER ?f", "BIND 2 ?b", "VALUES ?v { 3 }"}
	for first, want := range pairs {
		for i, next := range behind {
			checkAlg(t, first+" "+next, want[i])
			// In a group within, it is the same.
			if next[0] != 'F' && first[0] != 'F' {
				checkAlg(t, "OPTIONAL { "+first+" "+next+" }", "left([], "+want[i]+", 1)")
			}
			checkAlg(t, "MINUS { "+first+" "+next+" }", "minus([], "+want[i]+")")
			checkAlg(t, "UNION { } { "+first+" "+next+" }", "union([], "+want[i]+")")
			checkAlg(t, "UNION { "+first+" "+next+" } { }", "union("+want[i]+", [])")
		}
	}
}

func TestWhatIsAndOfTwo(t *testing.T) {
	for s, want := range map[string]string{
		"?a <p> 1 . ?b <p> 1 . ?c <p> 1 . ?a <p> 1 .":                  "[a, b, c, a]",
		"?a <p> 1 . VALUES ?a { } ?b <p> 1 .":                          "join(join([a], rows(?a, )), [b])",
		"?a <p> 1 . VALUES ?a { } ?b <p> 1 . ?c <p> 1 .":               "join(join(join([a], rows(?a, )), [b]), [c])",
		"VALUES ?a { 1 } VALUES ?b { 2 } VALUES ?c { 3 }":              "join(join(rows(?a, 1), rows(?b, 2)), rows(?c, 3))",
		"UNION { } { } UNION { } { } ?a <p> 1 .":                       "join(join(union([], []), union([], [])), [a])",
		"OPTIONAL { } ?a <p> 1 .":                                      "join(left([], [], 1), [a])",
		"MINUS { } VALUES ?a { 1 }":                                    "join(minus([], []), rows(?a, 1))",
		"BIND 1 ?a UNION { } { }":                                      "join(extend([], ?a, 1), union([], []))",
		"?a <p> 1 . ?b <p> 1 . OPTIONAL { ?c <p> 1 . ?d <p> 1 . }":     "left([a, b], [c, d], 1)",
		"?a <p> 1 . UNION { ?b <p> 1 . ?c <p> 1 . } { VALUES ?d { } }": "join([a], union([b, c], rows(?d, )))",
		"FILTER ?a ?a <p> 1 . FILTER ?b ?b <p> 1 .":                    "filter([a, b], ( ?a & ?b ))",
	} {
		checkAlg(t, s, want)
	}
}

func TestWhatMayBeThere(t *testing.T) {
	for s, want := range map[string]string{
		"OPTIONAL { }":           "left([], [], 1)",
		"OPTIONAL { FILTER ?a }": "left([], [], ?a)",
		"?a <p> 1 . OPTIONAL { ?b <p> 1 . FILTER ( ?a < ?b ) }":                                "left([a], [b], ( ?a < ?b ))",
		"?a <p> 1 . OPTIONAL { FILTER ( ?a < ?b ) ?b <p> 1 . }":                                "left([a], [b], ( ?a < ?b ))",
		"?a <p> 1 . OPTIONAL { ?b <p> 1 . FILTER ?a FILTER ?b }":                               "left([a], [b], ( ?a & ?b ))",
		"?a <p> 1 . OPTIONAL { ?b <p> 1 . } FILTER ?b":                                         "filter(left([a], [b], 1), ?b)",
		"?a <p> 1 . OPTIONAL { ?b <p> 1 . FILTER ?b } FILTER ?a":                               "filter(left([a], [b], ?b), ?a)",
		"?a <p> 1 . FILTER ?a OPTIONAL { ?b <p> 1 . FILTER ?b }":                               "filter(left([a], [b], ?b), ?a)",
		"OPTIONAL { OPTIONAL { } }":                                                            "left([], left([], [], 1), 1)",
		"OPTIONAL { OPTIONAL { FILTER ?a } }":                                                  "left([], left([], [], ?a), 1)",
		"OPTIONAL { OPTIONAL { ?a <p> 1 . FILTER ?a } FILTER ?b }":                             "left([], left([], [a], ?a), ?b)",
		"OPTIONAL { OPTIONAL { FILTER 2 FILTER 3 } FILTER 4 FILTER 5 }":                        "left([], left([], [], ( 2 & 3 )), ( 4 & 5 ))",
		"OPTIONAL { MINUS { ?a <p> 1 . FILTER ?a } }":                                          "left([], minus([], filter([a], ?a)), 1)",
		"OPTIONAL { UNION { FILTER ?a } { FILTER ?b } }":                                       "left([], union(filter([], ?a), filter([], ?b)), 1)",
		"OPTIONAL { BIND NOT ?a ?b }":                                                          "left([], extend([], ?b, NOT ?a), 1)",
		"OPTIONAL { ?a <p> 1 . } OPTIONAL { ?b <p> 1 . FILTER ?a } OPTIONAL { ?c <p> 1 . }":    "left(left(left([], [a], 1), [b], ?a), [c], 1)",
		"UNION { OPTIONAL { FILTER ?a } } { } MINUS { OPTIONAL { ?c <p> 1 . FILTER LEN ?c } }": "minus(union(left([], [], ?a), []), left([], [c], LEN ?c))",
	} {
		checkAlg(t, s, want)
	}
}

func TestWhatIsAsked(t *testing.T) {
	parts := []string{"?a <p> 1 .", "?b <p> 1 .", "VALUES ?a { 1 }"}
	const all = "join([a, b], rows(?a, 1))"
	for one := range 4 {
		for two := one; two < 4; two++ {
			for three := two; three < 4; three++ {
				var single, double, triple []string
				for i := range 4 {
					for at, list := range map[*[]string][]int{&single: {one}, &double: {one, two}, &triple: {one, two, three}} {
						for k, place := range list {
							if place == i {
								*at = append(*at, []string{"FILTER ?x", "FILTER NOT ?y", "FILTER ( ?x & ?y )"}[k])
							}
						}
						if i < 3 {
							*at = append(*at, parts[i])
						}
					}
				}
				checkAlg(t, strings.Join(single, " "), "filter("+all+", ?x)")
				checkAlg(t, strings.Join(double, " "), "filter("+all+", ( ?x & NOT ?y ))")
				checkAlg(t, strings.Join(triple, " "), "filter("+all+", ( ( ?x & NOT ?y ) & ( ?x & ?y ) ))")
			}
		}
	}
	checkAlg(t, "FILTER 1 FILTER 2 FILTER 3 FILTER 4", "filter([], ( ( ( 1 & 2 ) & 3 ) & 4 ))")
	checkAlg(t, "FILTER ?a FILTER ?a", "filter([], ( ?a & ?a ))")
	checkAlg(t, "MINUS { FILTER 1 FILTER 2 } FILTER 3", "filter(minus([], filter([], ( 1 & 2 ))), 3)")
}

func TestOneOrAnotherAndWhatIsTakenAway(t *testing.T) {
	for s, want := range map[string]string{
		"UNION { } { }": "union([], [])", "MINUS { }": "minus([], [])", "?a <p> 1 . UNION { } { }": "join([a], union([], []))", "?a <p> 1 . MINUS { }": "minus([a], [])",
		"UNION { ?a <p> 1 . } { }": "union([a], [])", "UNION { } { ?a <p> 1 . }": "union([], [a])", "UNION { FILTER 1 } { FILTER 2 }": "union(filter([], 1), filter([], 2))",
		"UNION { UNION { } { ?a <p> 1 . } } { UNION { ?b <p> 1 . } { } }": "union(union([], [a]), union([b], []))",
		"MINUS { MINUS { ?a <p> 1 . } ?b <p> 1 . }":                       "minus([], join(minus([], [a]), [b]))",
		"MINUS { FILTER 1 } MINUS { ?a <p> 1 . }":                         "minus(minus([], filter([], 1)), [a])",
	} {
		checkAlg(t, s, want)
	}
}

func TestAlgebraTellsTheNumberOne(t *testing.T) {
	a, ok := impl.Algebra(ask(optional()))
	if !ok || told(a) != told(alLeft(alBgp(), alBgp(), exTerm(impl.Term{Kind: impl.TmNum, N: 1}))) {
		t.Errorf("%v, %v", a, ok)
	}
}

func TestAlgebrasAsMeant(t *testing.T) {
	source := rand.New(rand.NewSource(51))
	seen, refused := 0, 0
	var kinds [8]int
	for i := range 8000 {
		q := maker{source, someNames(source), pick(source, 0, 20, 60)}.query()
		if _, ok := meantVars(q); !ok {
			refused++
			if a, ok := impl.Algebra(q); ok || told(a) != told(impl.Alg{}) {
				t.Fatalf("%v: %v, %v", q, a, ok)
			}
			continue
		}
		seen++
		a := checkPromise(t, fmt.Sprint("query ", i), q)
		kinds[a.Kind]++
		if m := walkAlg(a); m.wrong || m.nodes > 480 {
			t.Fatalf("%s may not be", tellAlg(a))
		}
	}
	if seen < 3000 || refused < 1000 {
		t.Errorf("%d and %d show too little", seen, refused)
	}
	for kind, count := range kinds {
		if count < 30 {
			t.Errorf("%d of kind %d show too little", count, kind)
		}
	}
}

func TestGreatQueriesHaveAlgebras(t *testing.T) {
	both, way := union(nil, nil), asked("?a", "?a", "?a")
	nested := optional(repeated(100, optional())...)
	for range 7 {
		nested = optional(nested, optional())
	}
	deepAsked := filter(exVar("a"))
	for range 8 {
		deepAsked.Expr = ex(impl.ExNot, deepAsked.Expr)
	}
	for what, c := range map[string]struct {
		body                []impl.Elem
		parts, deep, within int
	}{
		"triples":                {repeated(120, way), 121, 1, 0},
		"unions":                 {repeated(120, both), 479, 121, 0},
		"OPTIONAL and unions":    {append([]impl.Elem{optional()}, repeated(119, both)...), 480, 121, 1},
		"unions and OPTIONAL":    {append(repeated(119, both), optional()), 478, 121, 1},
		"optionals":              {repeated(120, optional()), 361, 121, 1},
		"taken away":             {repeated(120, minus()), 241, 121, 0},
		"asked":                  {repeated(60, filter(exVar("a"))), 121, 2, 60},
		"asked deep":             {append([]impl.Elem{deepAsked}, repeated(55, filter(exVar("a")))...), 121, 2, 64},
		"asked within":           {[]impl.Elem{optional(repeated(59, filter(exVar("a")))...)}, 120, 2, 59},
		"values":                 {repeated(120, values("v")), 239, 120, 0},
		"triples and values":     {append(repeated(60, values("v")), repeated(60, way)...), 299, 120, 0},
		"optionals in optionals": {[]impl.Elem{nested}, 346, 116, 1},
		"unions in unions":       {[]impl.Elem{union(repeated(60, both), repeated(59, both))}, 475, 62, 0},
	} {
		q := ask(c.body...)
		a := checkPromise(t, what, q)
		m := walkAlg(a)
		if m.nodes != c.parts || m.deepAlg != c.deep || m.deep != c.within {
			t.Errorf("%s: %d parts, %d and %d deep; want %d, %d and %d", what, m.nodes, m.deepAlg, m.deep, c.parts, c.deep, c.within)
		}
	}
	q := ask(has("a", "b", "c", "d", "e", "f", "g", "h")...)
	checkPromise(t, "8 variables", q)
	checkPromise(t, "2000 bytes", ask(longBody(2000)...))
}

// goodAlgs has each kind of operation with all that the document says it has.
func goodAlgs() []impl.Alg {
	a, b := alHas("a"), alHas("b", "c")
	out := []impl.Alg{
		{}, a, b, alBgp(pattern(blank(0), "?p", number(-5, 1)), pattern(name("s"), name("p"), text("")), pattern("?s", "?s", "?s")),
		alJoin(a, b), alPair(impl.AlUnion, alBgp(), alBgp()), alPair(impl.AlMinus, a, a),
		alRows("v"), alRows("v", name("a")), alRows("zzzzzzzzzzzz", number(1, 0), number(1, 0), text(""), blank(3)),
		alJoin(alFilter(a, exVar("b")), alExtend(b, "a", exBound("c"))),
	}
	for _, e := range goodExprs() {
		out = append(out, alLeft(a, b, e), alFilter(a, e), alExtend(b, "a", e))
	}
	return out
}

func TestOperationsThatMayBe(t *testing.T) {
	for i, a := range goodAlgs() {
		checkWithin(t, fmt.Sprint("operation ", i), a, true)
	}
	empty := impl.Alg{Pats: []impl.Pat{}, Var: []byte{}, Terms: []impl.Term{}, Kids: []impl.Alg{}, Expr: impl.Expr{Var: []byte{}, Kids: []impl.Expr{}, Term: impl.Term{Text: []byte{}}}}
	checkWithin(t, "empty lists", empty, true)
}

func TestOperationsWithSomethingTooMany(t *testing.T) {
	type field struct {
		lay   func(*impl.Alg)
		kinds string
	}
	fields := map[string]field{
		"Pats":            {func(a *impl.Alg) { a.Pats = alHas("a").Pats }, "0"},
		"a zero pattern":  {func(a *impl.Alg) { a.Pats = append(a.Pats[:len(a.Pats):len(a.Pats)], impl.Pat{}) }, ""},
		"Expr has a Kind": {func(a *impl.Alg) { a.Expr.Kind = 1 }, "256"},
		"Expr has an Op":  {func(a *impl.Alg) { a.Expr.Op = -1 }, ""},
		"Expr has a Var":  {func(a *impl.Alg) { a.Expr.Var = []byte("a") }, "256"},
		"Expr has a Term": {func(a *impl.Alg) { a.Expr.Term = number(1, 0) }, "256"},
		"Expr has an N":   {func(a *impl.Alg) { a.Expr.Term.N = 1 }, "256"},
		"Expr has Kids":   {func(a *impl.Alg) { a.Expr.Kids = []impl.Expr{exVar("a")} }, "256"},
		"Expr is one":     {func(a *impl.Alg) { a.Expr = exOp(impl.OpAdd, exVar("a"), exVar("a")) }, "256"},
		"Var":             {func(a *impl.Alg) { a.Var = []byte("a") }, "67"},
		"a byte of Var":   {func(a *impl.Alg) { a.Var = []byte{0} }, ""},
		"Terms":           {func(a *impl.Alg) { a.Terms = []impl.Term{name("a")} }, "7"},
		"a zero term":     {func(a *impl.Alg) { a.Terms = append(a.Terms[:len(a.Terms):len(a.Terms)], impl.Term{}) }, ""},
		"one Kid more":    {func(a *impl.Alg) { a.Kids = append(a.Kids[:len(a.Kids):len(a.Kids)], impl.Alg{}) }, ""},
	}
	seen := 0
	for _, a := range goodAlgs() {
		for what, field := range fields {
			if strings.Contains(field.kinds, fmt.Sprint(a.Kind)) {
				continue
			}
			seen++
			wrong := a
			field.lay(&wrong)
			checkWithin(t, what+" in "+tellAlg(a), wrong, false)
		}
	}
	if seen < 300 {
		t.Errorf("%d show too little", seen)
	}
}

func TestOperationsWithSomethingTooFew(t *testing.T) {
	x := exVar("x")
	for what, a := range map[string]impl.Alg{
		"AlLeft without Expr": alPair(impl.AlLeft, alBgp(), alBgp()), "AlFilter without Expr": alFilter(alBgp(), impl.Expr{}), "AlExtend without Expr": alExtend(alBgp(), "v", impl.Expr{}),
		"AlExtend without Var": alExtend(alBgp(), "", x), "AlExtend without both": alExtend(alBgp(), "", impl.Expr{}), "AlRows without Var": alRows("", name("a")), "AlRows without both": alRows(""),
		"a pattern without S": alBgp(impl.Pat{P: item("?p"), O: item("?o")}), "a pattern without P": alBgp(impl.Pat{S: item("?p"), O: item("?o")}), "a pattern without O": alBgp(impl.Pat{S: item("?p"), P: item("?o")}),
		"the second pattern is none": alBgp(pattern("?a", "?b", "?c"), impl.Pat{}),
		"AlLeft's Expr is none":      alLeft(alBgp(), alBgp(), ex(impl.ExNot)), "AlFilter's Expr is none": alFilter(alBgp(), ex(impl.ExNot, impl.Expr{})), "AlExtend's Expr is none": alExtend(alBgp(), "v", exOp(8, x, x)),
		"AlJoin alone": {Kind: impl.AlJoin}, "AlLeft alone": {Kind: impl.AlLeft, Expr: x}, "AlUnion alone": {Kind: impl.AlUnion}, "AlMinus alone": {Kind: impl.AlMinus}, "AlFilter alone": {Kind: impl.AlFilter, Expr: x},
		"AlExtend alone": {Kind: impl.AlExtend, Expr: x, Var: []byte("v")}, "AlRows alone": {Kind: impl.AlRows},
	} {
		checkWithin(t, what, a, false)
	}
	for _, kind := range []int{-1, 8, 9, 100, math.MaxInt, math.MinInt} {
		for _, a := range append(goodAlgs(), impl.Alg{}) {
			a.Kind = kind
			checkWithin(t, fmt.Sprint("kind ", kind), a, false)
		}
	}
}

func TestKidsOfOperations(t *testing.T) {
	for kind, want := range []int{0, 2, 2, 2, 2, 1, 1, 0} {
		for kids := range 6 {
			a := impl.Alg{Kind: kind}
			switch kind {
			case impl.AlLeft, impl.AlFilter:
				a.Expr = exVar("e")
			case impl.AlExtend:
				a.Expr, a.Var = exVar("e"), []byte("v")
			case impl.AlRows:
				a.Var = []byte("v")
			}
			for range kids {
				a.Kids = append(a.Kids, alHas("k"))
			}
			checkWithin(t, fmt.Sprint(kids, " Kids of kind ", kind), a, kids == want)
			for i := range a.Kids {
				wrong := a
				wrong.Kids = append([]impl.Alg{}, a.Kids...)
				wrong.Kids[i] = impl.Alg{Kind: impl.AlRows}
				checkWithin(t, fmt.Sprint("Kid ", i, " of kind ", kind, " is none"), wrong, false)
			}
		}
	}
}

func TestPartsOfOperationsThatAreNone(t *testing.T) {
	for _, v := range badVars() {
		checkWithin(t, fmt.Sprintf("%q told", v), alExtend(alBgp(), v, exVar("x")), false)
		checkWithin(t, fmt.Sprintf("%q of rows", v), alRows(v, name("a")), false)
		checkWithin(t, fmt.Sprintf("%q asked", v), alFilter(alBgp(), exVar(v)), false)
		checkWithin(t, fmt.Sprintf("%q as S", v), alBgp(impl.Pat{S: impl.Item{Var: []byte(v)}, P: item("?p"), O: item("?o")}), false)
		checkWithin(t, fmt.Sprintf("%q as P", v), alBgp(impl.Pat{S: item("?p"), P: impl.Item{Var: []byte(v)}, O: item("?o")}), false)
		checkWithin(t, fmt.Sprintf("%q as O", v), alBgp(impl.Pat{S: item("?p"), P: item("?o"), O: impl.Item{Var: []byte(v)}}), false)
	}
	for _, x := range append(goodTerms(), badTerms()...) {
		isName := impl.TermOk(x) && x.Kind == impl.TmName
		isBlank := impl.TermOk(x) && x.Kind == impl.TmBlank
		checkWithin(t, "as S: "+tell(x), alBgp(pattern("?a", "?b", "?c"), pattern(x, "?p", "?o")), isName || isBlank)
		checkWithin(t, "as P: "+tell(x), alBgp(pattern("?s", x, "?o"), pattern("?a", "?b", "?c")), isName)
		checkWithin(t, "as O: "+tell(x), alBgp(pattern("?s", "?p", x)), impl.TermOk(x))
		checkWithin(t, "of rows: "+tell(x), alRows("v", name("a"), x), impl.TermOk(x))
		checkWithin(t, "asked: "+tell(x), alFilter(alBgp(), exTerm(x)), impl.TermOk(x))
		if !isZero(x) {
			checkWithin(t, "both as O: "+tell(x), alBgp(impl.Pat{S: item("?s"), P: item("?p"), O: impl.Item{Var: []byte("o"), Term: x}}), false)
		}
	}
}

func TestManyTermsOfRows(t *testing.T) {
	var terms []impl.Term
	for n := range 12 {
		checkWithin(t, fmt.Sprint(n, " Terms"), alRows("v", terms...), n <= 8)
		terms = append(terms, number(n, 0))
	}
}

// patterns are so many, all alike.
func patterns(count int) impl.Alg {
	var a impl.Alg
	for range count {
		a.Pats = append(a.Pats, pattern("?a", "?a", "?a"))
	}
	return a
}

func TestManyPatterns(t *testing.T) {
	for _, n := range []int{0, 1, 119, 120, 121, 122, 479, 480, 100000} {
		checkWithin(t, fmt.Sprint(n, " patterns"), patterns(n), n <= 120)
	}
	checkAlgOk(t, "120 and 120", alJoin(patterns(120), patterns(120)), true)
	checkAlgOk(t, "120 and 121", alJoin(patterns(120), patterns(121)), false)
	checkAlgOk(t, "121 and 120", alJoin(patterns(121), patterns(120)), false)
}

// balanced joins so many operations without getting deep.
func balanced(kind int, list ...impl.Alg) impl.Alg {
	if len(list) == 1 {
		return list[0]
	}
	half := len(list) / 2
	return alPair(kind, balanced(kind, list[:half]...), balanced(kind, list[half:]...))
}

// expression has so many parts and is not deep.
func expression(parts int) impl.Expr {
	switch parts {
	case 1:
		return exVar("a")
	case 2:
		return ex(impl.ExNot, exVar("a"))
	}
	half := (parts - 1) / 2
	return exOp(impl.OpAnd, expression(half), expression(parts-1-half))
}

func TestManyPartsOfAlgebras(t *testing.T) {
	leaves := make([]impl.Alg, 240) // with the joins 479 parts
	many := make([]impl.Alg, 241)
	for _, kind := range []int{impl.AlJoin, impl.AlUnion, impl.AlMinus} {
		for extra := range 4 {
			for at := range leaves {
				own := append([]impl.Alg{}, leaves...)
				own[at] = patterns(extra)
				checkAlgOk(t, fmt.Sprint(479+extra, " parts of kind ", kind), balanced(kind, own...), extra <= 1)
			}
		}
		checkAlgOk(t, fmt.Sprint("481 operations of kind ", kind), balanced(kind, many...), false)
	}
	for parts := 470; parts <= 485; parts++ {
		checkAlgOk(t, fmt.Sprint("asked, ", parts), alFilter(alBgp(), expression(parts-2)), parts <= 480)
		checkAlgOk(t, fmt.Sprint("told, ", parts), alExtend(alBgp(), "v", expression(parts-2)), parts <= 480)
		checkAlgOk(t, fmt.Sprint("left, ", parts), alLeft(alBgp(), alBgp(), expression(parts-3)), parts <= 480)
		checkAlgOk(t, fmt.Sprint("left, with patterns, ", parts), alLeft(patterns(100), alRows("a"), expression(parts-103)), parts <= 480)
		checkAlgOk(t, fmt.Sprint("twice, ", parts), alFilter(alFilter(alBgp(), expression(200)), expression(parts-203)), parts <= 480)
		checkAlgOk(t, fmt.Sprint("apart, ", parts), alJoin(alFilter(alBgp(), expression(200)), alFilter(alBgp(), expression(parts-205))), parts <= 480)
		checkAlgOk(t, fmt.Sprint("patterns, ", parts), balanced(impl.AlJoin, patterns(120), patterns(120), patterns(120), patterns(parts-367)), parts <= 480)
		checkAlgOk(t, fmt.Sprint("values count as one, ", parts), alFilter(alRows("v", eightTerms()...), expression(parts-2)), parts <= 480)
	}
}

func eightTerms() []impl.Term {
	return []impl.Term{number(1, 0), number(2, 0), number(3, 0), number(4, 0), number(5, 0), number(6, 0), number(7, 0), number(8, 0)}
}

// algWays put an operation one deeper by two parts more; just so it can come to depth 240.
func algWays() map[string]func(impl.Alg) impl.Alg {
	return map[string]func(impl.Alg) impl.Alg{
		"joined, first":     func(a impl.Alg) impl.Alg { return alJoin(a, alBgp()) },
		"joined, second":    func(a impl.Alg) impl.Alg { return alJoin(alRows("v"), a) },
		"united, first":     func(a impl.Alg) impl.Alg { return alPair(impl.AlUnion, a, alBgp()) },
		"united, second":    func(a impl.Alg) impl.Alg { return alPair(impl.AlUnion, alBgp(), a) },
		"taken away, first": func(a impl.Alg) impl.Alg { return alPair(impl.AlMinus, a, alBgp()) },
		"taken away":        func(a impl.Alg) impl.Alg { return alPair(impl.AlMinus, alBgp(), a) },
		"asked":             func(a impl.Alg) impl.Alg { return alFilter(a, exVar("a")) },
		"told":              func(a impl.Alg) impl.Alg { return alExtend(a, "v", exVar("a")) },
	}
}

func TestHowDeepOperations(t *testing.T) {
	for what, way := range algWays() {
		a := alBgp()
		for deep := 1; deep <= 245; deep++ {
			checkAlgOk(t, fmt.Sprint(what, ", ", deep, " deep"), a, deep <= 240)
			a = way(a)
		}
		a = alHas("x") // a pattern more
		for deep := 1; deep <= 245; deep++ {
			checkAlgOk(t, fmt.Sprint(what, " with a pattern, ", deep, " deep"), a, deep <= 240)
			a = way(a)
		}
	}
	a := alBgp()
	for deep := 1; deep <= 165; deep++ { // 3 parts each, so depth is never what fails
		checkAlgOk(t, fmt.Sprint("left, ", deep, " deep"), a, 3*(deep-1)+1 <= 480)
		a = alLeft(a, alBgp(), exVar("a"))
	}
	for range 100000 {
		a = alFilter(a, exVar("a"))
	}
	checkAlgOk(t, "very deep", a, false)
}

func exprWays() map[string]func(impl.Expr) impl.Expr {
	a := exVar("a")
	return map[string]func(impl.Expr) impl.Expr{
		"NOT":             func(e impl.Expr) impl.Expr { return ex(impl.ExNot, e) },
		"LEN":             func(e impl.Expr) impl.Expr { return ex(impl.ExLen, e) },
		"first of two":    func(e impl.Expr) impl.Expr { return exOp(impl.OpAnd, e, a) },
		"second of two":   func(e impl.Expr) impl.Expr { return exOp(impl.OpAnd, a, e) },
		"COAL":            func(e impl.Expr) impl.Expr { return ex(impl.ExCoal, e) },
		"the last of IF":  func(e impl.Expr) impl.Expr { return ex(impl.ExIf, a, a, e) },
		"the first of IF": func(e impl.Expr) impl.Expr { return ex(impl.ExIf, e, a, a) },
	}
}

func TestHowDeepExpressionsOfOperations(t *testing.T) {
	for what, way := range exprWays() {
		for _, leaf := range []impl.Expr{exVar("a"), exBound("b"), exTerm(number(1, 0))} {
			e := leaf
			for deep := 1; deep <= 125; deep++ {
				want := deep <= 120
				say := fmt.Sprint(what, ", ", deep, " deep")
				checkAlgOk(t, say+", asked", alFilter(alBgp(), e), want)
				checkAlgOk(t, say+", told", alExtend(alHas("a"), "v", e), want)
				checkAlgOk(t, say+", left", alLeft(alBgp(), alBgp(), e), want)
				if !strings.Contains(what, "IF") {
					// How deep the operation lies itself plays no part.
					checkAlgOk(t, say+", below", alJoin(alBgp(), alExtend(alFilter(alFilter(alBgp(), exVar("a")), e), "v", exVar("a"))), want)
				}
				e = way(e)
			}
		}
	}
	e := exVar("a")
	for range 100000 {
		e = ex(impl.ExNot, e)
	}
	checkAlgOk(t, "very deep", alFilter(alBgp(), e), false)
}

func TestHowManyVariablesOfAlgebras(t *testing.T) {
	all := []string{"a", "b", "c", "d", "e", "f", "g", "h", "i"}
	checkAlgOk(t, "8 in one", alHas(all[:8]...), true)
	checkAlgOk(t, "9 in one", alHas(all...), false)
	eight := alHas(all[:8]...)
	for what, last := range map[string]func(string) impl.Alg{
		"as S":    func(v string) impl.Alg { return alHas(v) },
		"as P":    func(v string) impl.Alg { return alBgp(pattern("?a", "?"+v, "?b")) },
		"as O":    func(v string) impl.Alg { return alBgp(pattern("?a", "?b", "?"+v)) },
		"asked":   func(v string) impl.Alg { return alFilter(alBgp(), exVar(v)) },
		"bound":   func(v string) impl.Alg { return alFilter(alBgp(), ex(impl.ExNot, exBound(v))) },
		"told":    func(v string) impl.Alg { return alExtend(alBgp(), v, exVar("a")) },
		"of told": func(v string) impl.Alg { return alExtend(alBgp(), "a", exOp(impl.OpAdd, exVar("a"), exVar(v))) },
		"of rows": func(v string) impl.Alg { return alRows(v) },
		"left": func(v string) impl.Alg {
			return alLeft(alBgp(), alBgp(), ex(impl.ExIf, exVar("a"), exVar("b"), exVar(v)))
		},
		"taken away": func(v string) impl.Alg { return alPair(impl.AlMinus, alBgp(), alHas(v)) },
		"far below": func(v string) impl.Alg {
			return alJoin(alBgp(), alPair(impl.AlUnion, alFilter(alHas(v), exVar("a")), alBgp()))
		},
	} {
		for kind := impl.AlJoin; kind <= impl.AlMinus; kind++ {
			if kind == impl.AlLeft {
				continue
			}
			checkAlgOk(t, fmt.Sprint("8, ", what), alPair(kind, eight, last("c")), true)
			checkAlgOk(t, fmt.Sprint("8, ahead ", what), alPair(kind, last("h"), eight), true)
			checkAlgOk(t, fmt.Sprint("9, ", what), alPair(kind, eight, last("i")), false)
			checkAlgOk(t, fmt.Sprint("9, ahead ", what), alPair(kind, last("i"), eight), false)
		}
	}
	checkAlgOk(t, "9 by names", alFilter(eight, exTerm(name("i"))), true)
}

func TestKidsThatHoldThemselves(t *testing.T) {
	one := []impl.Alg{{Kind: impl.AlFilter, Expr: exVar("a")}}
	one[0].Kids = one
	checkAlgOk(t, "one Kid", one[0], false)
	told := []impl.Alg{{Kind: impl.AlExtend, Expr: exVar("a"), Var: []byte("v")}}
	told[0].Kids = told
	checkAlgOk(t, "one Kid, told", told[0], false)
	for kind := impl.AlJoin; kind <= impl.AlMinus; kind++ {
		first := []impl.Alg{{Kind: kind}, {}}
		second := []impl.Alg{{}, {Kind: kind}}
		both := []impl.Alg{{Kind: kind}, {Kind: kind}}
		if kind == impl.AlLeft {
			first[0].Expr, second[1].Expr, both[0].Expr, both[1].Expr = exVar("a"), exVar("a"), exVar("a"), exVar("a")
		}
		first[0].Kids, second[1].Kids, both[0].Kids, both[1].Kids = first, second, both, both
		for what, a := range map[string]impl.Alg{"first": first[0], "second": second[1], "both": both[0]} {
			checkAlgOk(t, fmt.Sprint(what, " of kind ", kind), a, false)
			checkAlgOk(t, fmt.Sprint(what, " of kind ", kind, ", below"), alFilter(alJoin(alBgp(), a), exVar("a")), false)
		}
	}
	for _, kind := range []int{impl.ExNot, impl.ExOp, impl.ExIf, impl.ExCoal, impl.ExLen} {
		kids := make([]impl.Expr, map[int]int{impl.ExOp: 2, impl.ExIf: 3}[kind]+1)
		if kind == impl.ExOp || kind == impl.ExIf {
			kids = kids[1:]
		}
		for i := range kids {
			kids[i] = impl.Expr{Kind: kind, Kids: kids}
		}
		checkAlgOk(t, fmt.Sprint("expressions of kind ", kind), alFilter(alBgp(), kids[0]), false)
		checkAlgOk(t, fmt.Sprint("expressions of kind ", kind, ", told"), alExtend(alBgp(), "v", kids[0]), false)
		checkAlgOk(t, fmt.Sprint("expressions of kind ", kind, ", left"), alLeft(alBgp(), alBgp(), kids[0]), false)
		checkAlgOk(t, fmt.Sprint("expressions of kind ", kind, ", too many"), impl.Alg{Expr: kids[0]}, false)
	}
}

func TestMoreThanCanBeGoneThrough(t *testing.T) {
	for _, kind := range []int{impl.AlJoin, impl.AlLeft, impl.AlUnion, impl.AlMinus} {
		a, e := alBgp(), exVar("a")
		for range 200 {
			a, e = alPair(kind, a, a), exOp(impl.OpAdd, e, e)
			if kind == impl.AlLeft {
				a.Expr = exVar("a")
			}
		}
		checkAlgOk(t, fmt.Sprint("kind ", kind), a, false)
		checkAlgOk(t, fmt.Sprint("expressions, kind ", kind), alLeft(alBgp(), alBgp(), e), false)
	}
	wide := impl.Alg{Kind: impl.AlJoin}
	for range 6 {
		kids := make([]impl.Alg, 5000)
		for i := range kids {
			kids[i] = wide
		}
		wide = impl.Alg{Kind: impl.AlJoin, Kids: kids}
	}
	checkAlgOk(t, "wide", wide, false)
}

// alg makes operations of which many may be, and many miss it by a little.
func (m maker) alg(deep int) impl.Alg {
	a := impl.Alg{Kind: pick(m.Rand, 0, 0, 1, 2, 3, 4, 5, 6, 7)}
	if deep <= 0 {
		a.Kind = pick(m.Rand, 0, 7)
	}
	switch a.Kind {
	case impl.AlBgp:
		for range m.Intn(4) {
			a.Pats = append(a.Pats, impl.Pat{S: m.item(0, 1), P: m.item(0), O: m.item(0, 1, 2, 3)})
		}
	case impl.AlLeft, impl.AlFilter:
		a.Expr = m.expr(m.Intn(4))
	case impl.AlExtend:
		a.Expr, a.Var = m.expr(m.Intn(4)), m.variable()
	case impl.AlRows:
		a.Var = m.variable()
		for range m.Intn(4) {
			a.Terms = append(a.Terms, m.term())
		}
	}
	for range []int{0, 2, 2, 2, 2, 1, 1, 0}[a.Kind] {
		a.Kids = append(a.Kids, m.alg(deep-1))
	}
	if m.goesWild() {
		pick(m.Rand, func() { a.Kind = m.Intn(10) - 1 }, func() { a.Var = m.variable() }, func() { a.Var = nil }, func() { a.Expr = m.expr(1) }, func() { a.Expr = impl.Expr{} }, func() { a.Kids = append(a.Kids, impl.Alg{}) },
			func() { a.Kids = nil }, func() { a.Terms = append(a.Terms, goodTerms()[:6]...) }, func() { a.Pats = append(a.Pats, pattern("?a", "?a", "?a")) }, func() { a.Expr.Op = m.Intn(9) })()
	}
	return a
}

func TestOperationsAsMeant(t *testing.T) {
	source := rand.New(rand.NewSource(52))
	var may, mayNot, great int
	for range 12000 {
		a := maker{source, someNames(source), pick(source, 0, 5, 12, 40)}.alg(source.Intn(14))
		want := isMeantAlg(a)
		if impl.AlgOk(a) != want {
			t.Fatalf("AlgOk is %v: %v", !want, a)
		}
		if want {
			may++
		} else {
			mayNot++
		}
		if walkAlg(a).nodes > 100 {
			great++
		}
	}
	if may < 3000 || mayNot < 3000 || great < 200 {
		t.Errorf("%d that may be, %d that may not and %d great ones show too little", may, mayNot, great)
	}
}

func TestAlgebrasAreNewMemory(t *testing.T) {
	source := rand.New(rand.NewSource(53))
	for _, s := range []string{
		"ASK { }", "ASK { OPTIONAL { } OPTIONAL { OPTIONAL { } } }", "ASK { FILTER ?a FILTER \"b\" FILTER IF ?a ?b <c> }", "ASK { BIND COAL { ?a \"x\" } ?b VALUES ?c { <d> \"e\" } }",
		"ASK { ?a <p> \"t\" . <s> ?a <o> . OPTIONAL { <x> ?b ?c . FILTER ( ?a < \"z\" ) } UNION { ?a ?b ?c . } { MINUS { ?a ?b ?c . } } }",
	} {
		q, _, _ := impl.QueryRead([]byte(s))
		a, ok := impl.Algebra(q)
		again, _ := impl.Algebra(q)
		if !ok {
			t.Fatal(s)
		}
		checkOwnMemory(t, q, a, again)
	}
	// Elements that share their lists do not make an algebra that does.
	shared := bind(exOp(impl.OpAdd, exTerm(text("x")), exVar("a")), "v")
	shared.Var = shared.Expr.Kids[1].Var
	kin := append(has("a"), values("a", text("t"), name("n")), filter(shared.Expr), filter(shared.Expr))
	a, ok := impl.Algebra(ask(optional(kin...), union(kin, kin), minus(kin...), optional(shared), optional(shared)))
	if !ok {
		t.Fatal("no query")
	}
	checkOwnMemory(t, a)
	for range 400 {
		q := withSpare(reflect.ValueOf(maker{source, someNames(source), 0}.query())).Interface().(impl.Query)
		if a, ok := impl.Algebra(q); ok {
			checkOwnMemory(t, q, a)
		}
	}
}

func TestAlgebraArgumentsAreLeftAlone(t *testing.T) {
	source := rand.New(rand.NewSource(54))
	for range 300 {
		m := maker{source, someNames(source), pick(source, 0, 30)}
		made := m.query()
		q := withSpare(reflect.ValueOf(made)).Interface().(impl.Query)
		before := wholly(reflect.ValueOf(q))
		a, ok := impl.Algebra(q)
		plainAlg, plainOk := impl.Algebra(made)
		if ok != plainOk || told(a) != told(plainAlg) {
			t.Fatalf("%v: what lies behind its lists plays a part", made)
		}
		if wholly(reflect.ValueOf(q)) != before {
			t.Fatalf("%v is not what it was", q)
		}
		small := m.alg(source.Intn(4))
		given := withSpare(reflect.ValueOf(small)).Interface().(impl.Alg)
		before = wholly(reflect.ValueOf(given))
		if impl.AlgOk(given) != impl.AlgOk(small) || wholly(reflect.ValueOf(given)) != before {
			t.Fatalf("%v is not what it was, or what lies behind its lists plays a part", small)
		}
	}
}

func TestAlgebraIsTheSameEachTime(t *testing.T) {
	q, _, _ := impl.QueryRead([]byte(longText))
	first, ok := impl.Algebra(q)
	if !ok {
		t.Fatal("no query")
	}
	for range 20 {
		if again, _ := impl.Algebra(q); told(again) != told(first) {
			t.Fatalf("%v, then %v", first, again)
		}
	}
}
