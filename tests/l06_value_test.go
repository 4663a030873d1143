package tests

import (
	"fmt"
	"math"
	"math/rand"
	"reflect"
	"strings"
	"testing"

	"loop.example/g00347/impl"
)

// sol has a cell for each: empty for nil.
func sol(terms ...any) impl.Sol {
	var s impl.Sol
	for _, x := range terms {
		if x == nil {
			s.Cells = append(s.Cells, impl.Cell{})
		} else {
			s.Cells = append(s.Cells, impl.Cell{Has: true, T: x.(impl.Term)})
		}
	}
	return s
}

// exprIn reads one expression.
func exprIn(t *testing.T, s string) impl.Expr {
	t.Helper()
	q, code, at := impl.QueryRead([]byte("ASK { FILTER " + s + " }"))
	if code != impl.ReadWell {
		t.Fatalf("%s: read with %d at %d", s, code, at)
	}
	return q.Body[0].Expr
}

// tellValue is "-" for nothing; what is told beside a false, but the zero value, is "?".
func tellValue(x impl.Term, has bool) string {
	if !has && isZero(x) {
		return "-"
	}
	if !has || !impl.TermOk(x) {
		return "?"
	}
	return string(impl.Show(x))
}

// wideVars and wideSol bind a variable of each kind; x is not bound, and z is none of them.
func wideVars() [][]byte { return vars("n", "b", "t", "e", "o", "i", "x") }

func wideSol() impl.Sol {
	return sol(name("nn"), blank(3), text("abc"), text(""), number(0, 0), number(-25, 1), nil)
}

func checkValue(t *testing.T, s string, want string) {
	t.Helper()
	if got := tellValue(impl.Value(exprIn(t, s), wideVars(), wideSol())); got != want {
		t.Errorf("%s: %s, want %s", s, got, want)
	}
}

// checkNoValue wants an expression refused, even where another one could do.
func checkNoValue(t *testing.T, what string, e impl.Expr, vars [][]byte, s impl.Sol) {
	t.Helper()
	for i, own := range []impl.Expr{e, ex(impl.ExCoal, exTerm(number(1, 0)), e), exOp(impl.OpOr, exTerm(number(1, 0)), e), ex(impl.ExIf, exTerm(number(1, 0)), exTerm(number(1, 0)), e)} {
		if got := tellValue(impl.Value(own, vars, s)); got != "-" {
			t.Errorf("%s, %d: %s", what, i, got)
		}
	}
}

func TestSolutionConstants(t *testing.T) {
	if impl.MaxRows != 300 {
		t.Error(impl.MaxRows)
	}
}

func TestValuesOfVariablesAndTerms(t *testing.T) {
	for s, want := range map[string]string{
		"?n": "<nn>", "?b": "_:3", "?t": `"abc"`, "?e": `""`, "?o": "0", "?i": "-2.5", "?x": "-", "?z": "-",
		"BOUND ?n": "1", "BOUND ?b": "1", "BOUND ?t": "1", "BOUND ?e": "1", "BOUND ?o": "1", "BOUND ?i": "1", "BOUND ?x": "0", "BOUND ?z": "0",
		"<nn>": "<nn>", "_:9": "_:9", `""`: `""`, `"a\"\\"`: `"a\"\\"`, "0": "0", "-0.000001": "-0.000001",
	} {
		checkValue(t, s, want)
	}
	for _, x := range goodTerms() {
		if got, ok := impl.Value(exTerm(x), nil, impl.Sol{}); !ok || !same(got, x) {
			t.Errorf("%s: %s, %v", tell(x), tell(got), ok)
		}
		if got, ok := impl.Value(exVar("b"), vars("a", "b", "c"), sol(nil, x, nil)); !ok || !same(got, x) {
			t.Errorf("a variable of %s: %s, %v", tell(x), tell(got), ok)
		}
	}
	// Each variable has the cell of its own place.
	all := []string{"h", "b", "a", "zzzzzzzzzzzz", "a1", "c", "z9", "d"}
	var full impl.Sol
	for i := range all {
		full.Cells = append(full.Cells, sol(number(i, 0)).Cells...)
	}
	for i, v := range all {
		if got := tellValue(impl.Value(exVar(v), vars(all...), full)); got != fmt.Sprint(i) {
			t.Errorf("%s: %s", v, got)
		}
	}
}

func TestValuesOfNotAndLen(t *testing.T) {
	for s, want := range map[string]string{
		"NOT 0": "1", "NOT 1": "0", "NOT -1": "0", "NOT 0.000001": "0", `NOT ""`: "1", `NOT " "`: "0", `NOT "0"`: "0", "NOT <a>": "-", "NOT _:0": "-", "NOT ?x": "-", "NOT ?z": "-", "NOT ( 1 / 0 )": "-",
		"NOT NOT 0": "0", "NOT NOT -2.5": "1", `NOT NOT "abc"`: "1", "NOT NOT ?n": "-", "NOT BOUND ?x": "1", "NOT LEN ?e": "1", "NOT ?e": "1", "NOT ?o": "1", "NOT ?i": "0", "NOT ?b": "-",
		`LEN ""`: "0", `LEN "a"`: "1", `LEN " a "`: "3", `LEN "\"\\"`: "2", `LEN "` + strings.Repeat("~", 30) + `"`: "30", "LEN ?t": "3", "LEN ?e": "0",
		"LEN ?n": "-", "LEN <abc>": "-", "LEN ?b": "-", "LEN 123": "-", "LEN 0": "-", "LEN ?x": "-", "LEN ?z": "-", "LEN LEN ?t": "-", "LEN NOT ?t": "-",
	} {
		checkValue(t, s, want)
	}
}

func TestValuesOfIf(t *testing.T) {
	for s, want := range map[string]string{
		"IF 1 <y> <n>": "<y>", "IF -0.5 <y> <n>": "<y>", `IF " " <y> <n>`: "<y>", "IF 0 <y> <n>": "<n>", `IF "" <y> <n>`: "<n>", "IF <a> 1 1": "-", "IF _:1 1 1": "-", "IF ?x 1 1": "-", "IF ?z 1 1": "-", "IF ( 1 / 0 ) 1 1": "-",
		// The one that is not taken plays no part, nor whether it comes to something.
		"IF 1 2 ?x": "2", "IF 0 ?x 3": "3", "IF 1 ?x 3": "-", "IF 0 2 ?x": "-", "IF ?t ?t ( 1 / 0 )": `"abc"`, "IF ?e ( 1 / 0 ) ?b": "_:3", "IF ?i ?x ?x": "-",
		"IF 1 0 2": "0", `IF 1 "" 2`: `""`, "IF IF 1 0 1 2 3": "3", "IF NOT <a> 1 2": "-", "IF BOUND ?x 1 2": "2",
	} {
		checkValue(t, s, want)
	}
}

func TestValuesOfCoal(t *testing.T) {
	for s, want := range map[string]string{
		"COAL { 1 }": "1", "COAL { ?x }": "-", "COAL { ?x ?x ?x ?x }": "-", "COAL { ?x 2 }": "2", "COAL { 1 2 }": "1", "COAL { ?x ?z 3 4 }": "3", "COAL { ?x ?z ( 1 / 0 ) 4 }": "4", "COAL { ?x ?z ( 1 / 0 ) LEN 4 }": "-",
		// What has no truth, or is false, is something all the same.
		"COAL { 0 1 }": "0", `COAL { "" 1 }`: `""`, "COAL { <a> 1 }": "<a>", "COAL { ?b 1 }": "_:3", "COAL { NOT ?n 1 }": "1", "COAL { COAL { ?x } COAL { ?x 5 } }": "5",
	} {
		checkValue(t, s, want)
	}
}

func TestValuesOfAndOr(t *testing.T) {
	// By truths: false, true, none.
	kids := [][]string{{"0", `""`, "?e", "?o", "BOUND ?x"}, {"1", "?i", "?t", `" "`, "-0.1"}, {"?x", "?n", "<a>", "?b", "_:1", "?z", "( 1 / 0 )", "NOT <a>"}}
	and := [][]string{{"0", "0", "0"}, {"0", "1", "-"}, {"0", "-", "-"}}
	or := [][]string{{"0", "1", "-"}, {"1", "1", "1"}, {"-", "1", "-"}}
	for i, firsts := range kids {
		for k, seconds := range kids {
			for _, a := range firsts {
				for _, b := range seconds {
					checkValue(t, "( "+a+" & "+b+" )", and[i][k])
					checkValue(t, "( "+a+" | "+b+" )", or[i][k])
				}
			}
		}
	}
}

func TestValuesOfSameAndLess(t *testing.T) {
	for s, want := range map[string]string{
		"( <a> = <a> )": "1", "( <a> = <b> )": "0", `( <a> = "a" )`: "0", "( _:1 = _:1 )": "1", "( _:1 = _:2 )": "0", "( _:1 = 1 )": "0", `( "" = "" )`: "1", `( "a" = "A" )`: "0", `( "1" = 1 )`: "0", "( 0.5 = 0.5 )": "1", "( 0 = 0.5 )": "0", `( "" = 0 )`: "0",
		"( ?x = ?x )": "-", "( ?x = 1 )": "-", "( 1 = ?x )": "-", "( ?z = 1 )": "-", "( ?n = <nn> )": "1", "( ?n = ?b )": "0", "( ( 1 / 0 ) = 1 )": "-",
		"( 1 < 2 )": "1", "( 2 < 1 )": "0", "( 1 < 1 )": "0", "( -1 < 0.5 )": "1", "( 0.5 < -1 )": "0", "( 9 < 10 )": "1", `( "9" < "10" )`: "0", `( "" < "a" )`: "1", `( "a" < "" )`: "0", `( "a" < "a" )`: "0", `( "a" < "aa" )`: "1", `( "B" < "a" )`: "1",
		"( <a> < <b> )": "-", "( _:1 < _:2 )": "-", `( 1 < "2" )`: "-", `( "1" < 2 )`: "-", "( <a> < 1 )": "-", "( 1 < <a> )": "-", `( "a" < <a> )`: "-", "( _:1 < 2 )": "-", "( ?x < 1 )": "-", "( 1 < ?x )": "-", "( ?x < ?x )": "-",
	} {
		checkValue(t, s, want)
	}
}

func TestValuesOfSums(t *testing.T) {
	most := fmt.Sprint(impl.MaxWhole)
	for s, want := range map[string]string{
		"( 1 + 2 )": "3", "( 0.5 + 0.5 )": "1", "( 1 - 2 )": "-1", "( 2 - 2 )": "0", "( -1.5 * 4 )": "-6", "( 0 * 7 )": "0", "( 7 / 2 )": "3.5", "( -2 / 3 )": "-0.666666", "( 0 / 5 )": "0", "( ?i + ?o )": "-2.5",
		"( 1 / 0 )": "-", "( 0 / 0 )": "-", "( ?i / ?o )": "-", "( " + most + " + 1 )": "-", "( -" + most + " - 1 )": "-", "( " + most + " + 0 )": most, "( " + most + " * 10 )": "-", "( " + most + " * " + most + " )": "-", "( 0.001 * 0.0001 )": "-", "( " + most + " / 0.1 )": "-", "( 100000000000 / 1 )": "-",
	} {
		checkValue(t, s, want)
	}
	for _, op := range []string{"+", "-", "*", "/"} {
		for _, no := range []string{"<a>", "_:1", `"1"`, `""`, "?x", "?z", "?n", "?b", "?t", "?e", "( 1 / 0 )", "NOT <a>"} {
			checkValue(t, "( "+no+" "+op+" 1 )", "-")
			checkValue(t, "( 1 "+op+" "+no+" )", "-")
			checkValue(t, "( "+no+" "+op+" "+no+" )", "-")
		}
	}
	// Which of both comes first counts, and which operation it is.
	numbers := mixedNumbers(90)
	for op := impl.OpAdd; op <= impl.OpDiv; op++ {
		for _, a := range numbers {
			for _, b := range numbers {
				want := tellValue(impl.Calc(op, a, b))
				if got := tellValue(impl.Value(exOp(op, exVar("a"), exTerm(b)), vars("b", "a"), sol(nil, a))); got != want {
					t.Fatalf("operation %d of %s and %s: %s, want %s", op, tell(a), tell(b), got, want)
				}
			}
		}
	}
}

// meantTruth is 0, 1 or, for none, -1.
func meantTruth(x *impl.Term) int {
	switch {
	case x == nil || x.Kind == impl.TmName || x.Kind == impl.TmBlank:
		return -1
	case x.Kind == impl.TmNum && worth(*x).Sign() == 0 || x.Kind == impl.TmText && string(x.Text) == "":
		return 0
	}
	return 1
}

func termOf(n int) *impl.Term {
	x := number(n, 0)
	return &x
}

func numberIf(is bool) *impl.Term {
	if is {
		return termOf(1)
	}
	return termOf(0)
}

// meantValue is what an expression comes to by the document's words; nil for nothing.
func meantValue(e impl.Expr, row map[string]impl.Term) *impl.Term {
	var kids []*impl.Term
	for _, kid := range e.Kids {
		kids = append(kids, meantValue(kid, row))
	}
	switch e.Kind {
	case impl.ExVar:
		if x, has := row[string(e.Var)]; has {
			return &x
		}
	case impl.ExTerm:
		return &e.Term
	case impl.ExBound:
		_, has := row[string(e.Var)]
		return numberIf(has)
	case impl.ExNot:
		if is := meantTruth(kids[0]); is >= 0 {
			return termOf(1 - is)
		}
	case impl.ExIf:
		if is := meantTruth(kids[0]); is >= 0 {
			return kids[2-is]
		}
	case impl.ExCoal:
		for _, kid := range kids {
			if kid != nil {
				return kid
			}
		}
	case impl.ExLen:
		if kids[0] != nil && kids[0].Kind == impl.TmText {
			return termOf(len(kids[0].Text))
		}
	case impl.ExOp:
		return meantOp(e.Op, kids[0], kids[1])
	}
	return nil
}

func meantOp(op int, a *impl.Term, b *impl.Term) *impl.Term {
	x, y := meantTruth(a), meantTruth(b)
	switch {
	case op == impl.OpAnd && (x == 0 || y == 0), op == impl.OpOr && x == 0 && y == 0:
		return termOf(0)
	case op == impl.OpAnd && x == 1 && y == 1, op == impl.OpOr && (x == 1 || y == 1):
		return termOf(1)
	case op == impl.OpAnd, op == impl.OpOr, a == nil, b == nil:
		return nil
	case op == impl.OpSame:
		return numberIf(same(*a, *b))
	case a.Kind == impl.TmText && b.Kind == impl.TmText && op == impl.OpLess:
		return numberIf(string(a.Text) < string(b.Text))
	case a.Kind != impl.TmNum || b.Kind != impl.TmNum:
		return nil
	case op == impl.OpLess:
		return numberIf(worth(*a).Cmp(worth(*b)) < 0)
	}
	if x, ok := meant(op, *a, *b); ok {
		return &x
	}
	return nil
}

// poolTerms are few, so that some are found alike, and of each truth.
func poolTerms() []impl.Term {
	return []impl.Term{name("a"), name("b"), name("c"), blank(0), blank(1), text(""), text("a"), text("b"), number(0, 0), number(1, 0), number(2, 0), number(-5, 1)}
}

func (m maker) poolTerm(kinds ...int) impl.Term {
	for {
		x := pick(m.Rand, poolTerms()...)
		for _, kind := range kinds {
			if x.Kind == kind {
				return x
			}
		}
	}
}

// poolExpr makes expressions that may be, over few terms.
func (m maker) poolExpr(deep int) impl.Expr {
	if deep <= 0 || m.Intn(4) == 0 {
		return pick(m.Rand, exVar(string(m.variable())), exVar(string(m.variable())), exBound(string(m.variable())), exTerm(m.poolTerm(0, 1, 2, 3)))
	}
	e := impl.Expr{Kind: pick(m.Rand, 2, 2, 2, 2, 3, 5, 6, 7)}
	for range map[int]int{2: 2, 3: 1, 5: 3, 6: 1 + m.Intn(4), 7: 1}[e.Kind] {
		e.Kids = append(e.Kids, m.poolExpr(deep-1))
	}
	if e.Kind == impl.ExOp {
		e.Op = m.Intn(8)
	}
	return e
}

// poolSol has a solution over some variables, and as a map.
func (m maker) poolSol(list [][]byte) (impl.Sol, map[string]impl.Term) {
	var s impl.Sol
	row := map[string]impl.Term{}
	for _, v := range list {
		if m.Intn(4) == 0 {
			s.Cells = append(s.Cells, impl.Cell{})
			continue
		}
		x := m.poolTerm(0, 1, 2, 3)
		row[string(v)] = x
		s.Cells = append(s.Cells, impl.Cell{Has: true, T: x})
	}
	return s, row
}

func tellMeant(x *impl.Term) string {
	if x == nil {
		return "-"
	}
	return string(impl.Show(*x))
}

func TestValuesAsMeant(t *testing.T) {
	m := maker{rand.New(rand.NewSource(61)), []string{"a", "b", "c", "d", "e"}, 0}
	told := map[string]int{}
	for range 60000 {
		list := vars(m.names[:m.Intn(6)]...)
		s, row := m.poolSol(list)
		e := m.poolExpr(m.Intn(5))
		want := tellMeant(meantValue(e, row))
		if got := tellValue(impl.Value(e, list, s)); got != want {
			t.Fatalf("%s over %v, %v: %s, want %s", strings.Join(exprTokens(e), " "), tellVars(list), s, got, want)
		}
		if e.Kind == impl.ExOp {
			told[fmt.Sprint("op ", e.Op, want == "-")]++
		}
		told[fmt.Sprint("kind ", e.Kind, want == "-")]++
	}
	for what, count := range told {
		if count < 100 {
			t.Errorf("%s: %d show too little", what, count)
		}
	}
	if len(told) != 30 { // terms and BOUND always come to something
		t.Errorf("%d kinds of answers: %v", len(told), told)
	}
}

func TestTruthsGoTogether(t *testing.T) {
	m := maker{rand.New(rand.NewSource(62)), []string{"a", "b", "c"}, 0}
	list := vars("a", "b", "c")
	all := []impl.Expr{exVar("x"), exVar("a"), exOp(impl.OpDiv, exTerm(number(1, 0)), exTerm(number(0, 0)))}
	for _, x := range append(goodTerms(), poolTerms()...) {
		all = append(all, exTerm(x))
	}
	for range 40 {
		all = append(all, m.poolExpr(3))
	}
	not := func(e impl.Expr) impl.Expr { return ex(impl.ExNot, e) }
	s, _ := m.poolSol(list)
	value := func(e impl.Expr) string { return tellValue(impl.Value(e, list, s)) }
	seen := map[string]int{}
	for _, a := range all {
		for _, b := range all {
			both, either := exOp(impl.OpAnd, a, b), exOp(impl.OpOr, a, b)
			got := value(not(both))
			seen[got]++
			if got != value(exOp(impl.OpOr, not(a), not(b))) || value(not(either)) != value(exOp(impl.OpAnd, not(a), not(b))) {
				t.Fatalf("%v and %v: not of both, or of either, is another", a, b)
			}
			if value(both) != value(exOp(impl.OpAnd, b, a)) || value(either) != value(exOp(impl.OpOr, b, a)) {
				t.Fatalf("%v and %v hang on their order", a, b)
			}
			if value(not(not(both))) != value(both) || value(not(not(either))) != value(either) {
				t.Fatalf("%v and %v: not of not is another", a, b)
			}
		}
	}
	if seen["-"] < 100 || seen["0"] < 100 || seen["1"] < 100 || len(seen) != 3 {
		t.Errorf("%v show too little", seen)
	}
}

func TestTruth(t *testing.T) {
	for _, x := range goodTerms() {
		is, has := impl.Truth(x)
		if want := meantTruth(&x); has != (want >= 0) || is != (want == 1) {
			t.Errorf("%s: %v, %v", tell(x), is, has)
		}
		// Value goes by the same truths.
		if got := tellValue(impl.Value(ex(impl.ExNot, exTerm(x)), nil, impl.Sol{})); got != map[[2]bool]string{{false, false}: "-", {false, true}: "1", {true, true}: "0"}[[2]bool{is, has}] {
			t.Errorf("NOT %s: %s", tell(x), got)
		}
	}
	for _, x := range badTerms() {
		if is, has := impl.Truth(x); is || has {
			t.Errorf("%s: %v, %v", tell(x), is, has)
		}
	}
	for _, c := range []struct {
		x       impl.Term
		is, has bool
	}{
		{number(0, 0), false, true}, {number(1, 0), true, true}, {number(-1, 6), true, true}, {text(""), false, true}, {text(" "), true, true}, {text("0"), true, true},
		{name("a"), false, false}, {blank(0), false, false}, {blank(1), false, false}, {number(0, 1), false, false}, {number(10, 1), false, false}, {text("\n"), false, false}, {impl.Term{}, false, false},
	} {
		if is, has := impl.Truth(c.x); is != c.is || has != c.has {
			t.Errorf("%s: %v, %v", tell(c.x), is, has)
		}
	}
}

func TestExpressionsThatHaveNoValue(t *testing.T) {
	one := exTerm(number(1, 0))
	for _, kind := range []int{-1, 8, 9, math.MaxInt, math.MinInt} {
		for _, e := range append(goodExprs(), impl.Expr{}) {
			e.Kind = kind
			checkNoValue(t, fmt.Sprint("kind ", kind), e, nil, impl.Sol{})
		}
	}
	for _, op := range []int{-1, 8, 9, math.MaxInt, math.MinInt} {
		checkNoValue(t, fmt.Sprint("operation ", op), exOp(op, one, one), nil, impl.Sol{})
	}
	for what, e := range map[string]impl.Expr{
		"the zero value": {}, "BOUND without Var": {Kind: impl.ExBound}, "a term that is none": exTerm(name("")), "a term with Var": {Kind: impl.ExTerm, Term: number(1, 0), Var: []byte("a")}, "a variable with a term": {Var: []byte("a"), Term: number(1, 0)},
		"a term with an Op": {Kind: impl.ExTerm, Term: number(1, 0), Op: 1}, "a term with a Kid": {Kind: impl.ExTerm, Term: number(1, 0), Kids: []impl.Expr{one}}, "a variable with a Kid": {Var: []byte("a"), Kids: []impl.Expr{one}}, "BOUND with an Op": {Kind: impl.ExBound, Var: []byte("a"), Op: 1},
		"NOT with an Op": {Kind: impl.ExNot, Op: 1, Kids: []impl.Expr{one}}, "NOT with a Var": {Kind: impl.ExNot, Var: []byte("a"), Kids: []impl.Expr{one}}, "COAL with a term": {Kind: impl.ExCoal, Term: number(1, 0), Kids: []impl.Expr{one}}, "IF with an N": {Kind: impl.ExIf, Term: impl.Term{N: 1}, Kids: []impl.Expr{one, one, one}},
		"+ with a Var": {Kind: impl.ExOp, Var: []byte("a"), Kids: []impl.Expr{one, one}}, "a Kid is none": ex(impl.ExCoal, one, impl.Expr{}), "far below": exOp(impl.OpAdd, one, ex(impl.ExIf, one, one, ex(impl.ExNot, exOp(8, one, one)))),
	} {
		checkNoValue(t, what, e, vars("a"), sol(number(1, 0)))
	}
	for kind, want := range map[int]string{impl.ExVar: "0", impl.ExTerm: "0", impl.ExOp: "2", impl.ExNot: "1", impl.ExBound: "0", impl.ExIf: "3", impl.ExCoal: "1234", impl.ExLen: "1"} {
		for kids := range 7 {
			e := impl.Expr{Kind: kind, Kids: make([]impl.Expr, kids)}
			for i := range e.Kids {
				e.Kids[i] = one
			}
			switch kind {
			case impl.ExVar, impl.ExBound:
				e.Var = []byte("a")
			case impl.ExTerm:
				e.Term = number(1, 0)
			}
			if !strings.Contains(want, fmt.Sprint(kids)) {
				checkNoValue(t, fmt.Sprint(kids, " Kids of kind ", kind), e, vars("a"), sol(number(1, 0)))
			} else if got := tellValue(impl.Value(e, vars("a"), sol(number(1, 0)))); (got == "-") != (kind == impl.ExLen) {
				t.Errorf("%d Kids of kind %d: %s", kids, kind, got)
			}
		}
	}
	for _, v := range badVars() {
		checkNoValue(t, v, exVar(v), nil, impl.Sol{})
		checkNoValue(t, "BOUND "+v, exBound(v), nil, impl.Sol{})
	}
}

func TestHowGreatExpressionsWithAValueAre(t *testing.T) {
	// Each way comes to something, however deep.
	one := exTerm(number(1, 0))
	for what, way := range map[string]func(impl.Expr) impl.Expr{
		"NOT": func(e impl.Expr) impl.Expr { return ex(impl.ExNot, e) }, "COAL": func(e impl.Expr) impl.Expr { return ex(impl.ExCoal, e) }, "the last of COAL": func(e impl.Expr) impl.Expr { return ex(impl.ExCoal, one, one, e) },
		"first of two": func(e impl.Expr) impl.Expr { return exOp(impl.OpOr, e, one) }, "second of two": func(e impl.Expr) impl.Expr { return exOp(impl.OpSame, one, e) }, "the last of IF": func(e impl.Expr) impl.Expr { return ex(impl.ExIf, one, one, e) },
	} {
		e := one
		for deep := 1; deep <= 125; deep++ {
			if _, ok := impl.Value(e, nil, impl.Sol{}); ok != (deep <= 120) {
				t.Errorf("%s, %d deep: %v", what, deep, ok)
			}
			e = way(e)
		}
	}
	for parts := 470; parts <= 490; parts++ {
		if _, ok := impl.Value(expression(parts), vars("a"), sol(number(1, 0))); ok != (parts <= 480) {
			t.Errorf("%d parts: %v", parts, ok)
		}
	}
	all := []string{"a", "b", "c", "d", "e", "f", "g", "h", "i"}
	for count := range 10 {
		e := one
		for _, v := range all[:count] {
			e = exOp(impl.OpOr, e, exVar(v))
		}
		if _, ok := impl.Value(e, nil, impl.Sol{}); ok != (count <= 8) {
			t.Errorf("%d variables: %v", count, ok)
		}
		if _, ok := impl.Value(exOp(impl.OpOr, e, exBound("a")), vars("z"), sol(nil)); ok != (count <= 8) {
			t.Errorf("%d variables and one again: %v", count, ok)
		}
	}
}

func TestExpressionsThatHoldThemselvesHaveNoValue(t *testing.T) {
	for kind, kids := range map[int]int{impl.ExNot: 1, impl.ExOp: 2, impl.ExIf: 3, impl.ExCoal: 4, impl.ExLen: 1} {
		list := make([]impl.Expr, kids)
		for i := range list {
			list[i] = impl.Expr{Kind: kind, Kids: list}
		}
		checkNoValue(t, fmt.Sprint("kind ", kind), list[0], nil, impl.Sol{})
	}
	deep, wide := exVar("a"), exVar("a")
	for range 100000 {
		deep = ex(impl.ExNot, deep)
	}
	for range 200 {
		wide = exOp(impl.OpAnd, wide, wide)
	}
	checkNoValue(t, "very deep", deep, nil, impl.Sol{})
	checkNoValue(t, "very wide", wide, nil, impl.Sol{})
}

func TestVariablesThatHaveNoValues(t *testing.T) {
	one := exTerm(number(1, 0))
	empty := func(count int) impl.Sol { return impl.Sol{Cells: make([]impl.Cell, count)} }
	all := []string{"a", "b", "c", "d", "e", "f", "g", "h", "i", "j"}
	for count := range 11 {
		if got := tellValue(impl.Value(one, vars(all[:count]...), empty(count))); (got == "1") != (count <= 8) || got == "?" {
			t.Errorf("%d variables: %s", count, got)
		}
	}
	for what, list := range map[string][]string{
		"twice the same": {"a", "a"}, "twice, far apart": {"a", "b", "c", "d", "e", "f", "g", "a"}, "the last two": {"a", "b", "c", "d", "e", "f", "g", "g"}, "an empty one": {""}, "an empty one among others": {"a", "", "b"}, "one that is none, behind": {"a", "B"},
	} {
		checkNoValue(t, what, one, vars(list...), empty(len(list)))
	}
	for _, v := range badVars() {
		checkNoValue(t, fmt.Sprintf("%.20q", v), one, vars(v), empty(1))
		checkNoValue(t, fmt.Sprintf("%.20q behind another", v), one, vars("a", v), empty(2))
	}
	checkNoValue(t, "very many", one, vars(strings.Split(strings.Repeat("a ", 5000), " ")...), empty(5001))
	// Variables that begin alike are unlike.
	if got := tellValue(impl.Value(exVar("aa"), vars("a", "aa", "aaa"), sol(number(1, 0), number(2, 0), nil))); got != "2" {
		t.Error(got)
	}
}

func TestWhatIsNoSolution(t *testing.T) {
	one, ab, five := exTerm(number(1, 0)), vars("a", "b"), number(5, 0)
	for what, s := range map[string]impl.Sol{
		"no cells": {}, "one too few": sol(five), "one too many": sol(five, five, five), "an empty one too many": sol(five, five, nil), "many": {Cells: make([]impl.Cell, 1000)},
		"Has without a term": {Cells: []impl.Cell{{Has: true}, {}}}, "Has without a term, behind": {Cells: []impl.Cell{{}, {Has: true}}},
	} {
		checkNoValue(t, what, one, ab, s)
	}
	checkNoValue(t, "a cell without variables", one, nil, sol(nil))
	for _, x := range badTerms() {
		checkNoValue(t, "Has and "+tell(x), one, ab, impl.Sol{Cells: []impl.Cell{{Has: true, T: five}, {Has: true, T: x}}})
		checkNoValue(t, "asked for: Has and "+tell(x), exVar("a"), ab, impl.Sol{Cells: []impl.Cell{{Has: true, T: x}, {}}})
		if !isZero(x) {
			checkNoValue(t, "without Has, but "+tell(x), one, ab, impl.Sol{Cells: []impl.Cell{{T: x}, {}}})
		}
	}
	for _, x := range goodTerms() {
		checkNoValue(t, "without Has, but "+tell(x), one, ab, impl.Sol{Cells: []impl.Cell{{}, {T: x}}})
	}
	for _, s := range []impl.Sol{sol(nil, nil), sol(five, nil), sol(nil, five), sol(five, five), {Cells: []impl.Cell{{T: impl.Term{Text: []byte{}}}, {}}}} {
		if got := tellValue(impl.Value(one, ab, s)); got != "1" {
			t.Errorf("%v: %s", s, got)
		}
	}
	if got := tellValue(impl.Value(one, [][]byte{}, impl.Sol{Cells: []impl.Cell{}})); got != "1" {
		t.Errorf("over nothing: %s", got)
	}
}

func TestValuesAreNewMemory(t *testing.T) {
	s := sol(text("long"), name("nn"), nil)
	list := vars("t", "n", "x")
	for _, e := range []impl.Expr{exVar("t"), exVar("n"), exTerm(text("own")), exTerm(name("own")), ex(impl.ExCoal, exVar("x"), exVar("t")), ex(impl.ExIf, exVar("t"), exVar("n"), exVar("t")), ex(impl.ExIf, exTerm(number(0, 0)), exVar("n"), exTerm(text("z")))} {
		x, ok := impl.Value(e, list, s)
		again, _ := impl.Value(e, list, s)
		if !ok || len(x.Text) == 0 {
			t.Fatal(e)
		}
		checkOwnMemory(t, e, list, s, x, again)
		before := tell(again)
		x.Text[0] = 'Z'
		if third, _ := impl.Value(e, list, s); tell(third) != before || tell(again) != before {
			t.Errorf("%s, then %s", before, tell(third))
		}
	}
}

func TestValueArgumentsAreLeftAlone(t *testing.T) {
	m := maker{rand.New(rand.NewSource(63)), []string{"a", "b", "c"}, 0}
	for range 2000 {
		list := vars(m.names[:m.Intn(4)]...)
		s, _ := m.poolSol(list)
		e := m.poolExpr(3)
		type all struct {
			E    impl.Expr
			Vars [][]byte
			S    impl.Sol
		}
		given := withSpare(reflect.ValueOf(all{e, list, s})).Interface().(all)
		before := wholly(reflect.ValueOf(given))
		got := tellValue(impl.Value(given.E, given.Vars, given.S))
		if want := tellValue(impl.Value(e, list, s)); got != want {
			t.Fatalf("%v: %s, want %s: what lies behind its lists plays a part", e, got, want)
		}
		if wholly(reflect.ValueOf(given)) != before {
			t.Fatalf("%v, %v or %v is not what it was", e, list, s)
		}
	}
	x := text("abc")
	impl.Truth(x)
	if string(x.Text) != "abc" {
		t.Error(tell(x))
	}
}
