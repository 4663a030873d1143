package tests

import (
	"fmt"
	"math"
	"math/rand"
	"strings"
	"testing"

	"loop.example/g00347/impl"
)

// item takes a text that begins with ? as a variable; all else is a term.
func item(x any) impl.Item {
	if s, ok := x.(string); ok {
		return impl.Item{Var: []byte(strings.TrimPrefix(s, "?"))}
	}
	return impl.Item{Term: x.(impl.Term)}
}

func pattern(s any, p any, o any) impl.Pat {
	return impl.Pat{S: item(s), P: item(p), O: item(o)}
}

func asked(s any, p any, o any) impl.Elem {
	return impl.Elem{Kind: impl.ElTriple, Pat: pattern(s, p, o)}
}

// has is a triple that has these variables and nothing else to tell.
func has(vars ...string) []impl.Elem {
	var out []impl.Elem
	for _, v := range vars {
		out = append(out, asked("?"+v, name("p"), number(1, 0)))
	}
	return out
}

func exVar(v string) impl.Expr { return impl.Expr{Kind: impl.ExVar, Var: []byte(v)} }

func exBound(v string) impl.Expr { return impl.Expr{Kind: impl.ExBound, Var: []byte(v)} }

func exTerm(t impl.Term) impl.Expr { return impl.Expr{Kind: impl.ExTerm, Term: t} }

func ex(kind int, kids ...impl.Expr) impl.Expr { return impl.Expr{Kind: kind, Kids: kids} }

func exOp(op int, a impl.Expr, b impl.Expr) impl.Expr {
	return impl.Expr{Kind: impl.ExOp, Op: op, Kids: []impl.Expr{a, b}}
}

func optional(a ...impl.Elem) impl.Elem { return impl.Elem{Kind: impl.ElOptional, A: a} }

func minus(a ...impl.Elem) impl.Elem { return impl.Elem{Kind: impl.ElMinus, A: a} }

func union(a []impl.Elem, b []impl.Elem) impl.Elem {
	return impl.Elem{Kind: impl.ElUnion, A: a, B: b}
}

func filter(e impl.Expr) impl.Elem { return impl.Elem{Kind: impl.ElFilter, Expr: e} }

func bind(e impl.Expr, v string) impl.Elem {
	return impl.Elem{Kind: impl.ElBind, Expr: e, Var: []byte(v)}
}

func values(v string, terms ...impl.Term) impl.Elem {
	return impl.Elem{Kind: impl.ElValues, Var: []byte(v), Terms: terms}
}

func group(list ...impl.Elem) []impl.Elem { return list }

func ask(body ...impl.Elem) impl.Query { return impl.Query{Ask: true, Body: body, Limit: -1} }

func selectAll(body ...impl.Elem) impl.Query { return impl.Query{Body: body, Limit: -1} }

func plain(v string) impl.Sel { return impl.Sel{Var: []byte(v)} }

func count(of string, v string) impl.Sel {
	return impl.Sel{Fn: impl.FnCount, Of: []byte(of), Var: []byte(v)}
}

func total(of string, v string) impl.Sel {
	return impl.Sel{Fn: impl.FnSum, Of: []byte(of), Var: []byte(v)}
}

func up(v string) impl.Key { return impl.Key{Var: []byte(v)} }

func down(v string) impl.Key { return impl.Key{Var: []byte(v), Down: true} }

func vars(list ...string) [][]byte {
	var out [][]byte
	for _, v := range list {
		out = append(out, []byte(v))
	}
	return out
}

func tellVars(list [][]byte) string {
	var out []string
	for _, v := range list {
		out = append(out, string(v))
	}
	return strings.Join(out, " ")
}

// told makes nothing of nil and an empty list: they are the same value.
func told(x any) string { return fmt.Sprintf("%v", x) }

// checkQueryOk asks of all four functions whether they take a query alike.
func checkQueryOk(t *testing.T, what string, q impl.Query, want bool) {
	t.Helper()
	if impl.QueryOk(q) != want {
		t.Errorf("%s: QueryOk is %v: %v", what, !want, q)
		return
	}
	b, ok := impl.QueryText(q)
	if ok != want || !want && len(b) != 0 {
		t.Errorf("%s: QueryText: %q %v", what, b, ok)
	}
	if !want && len(impl.Vars(q)) != 0 {
		t.Errorf("%s: Vars: %s", what, tellVars(impl.Vars(q)))
	}
	if want {
		if again, code, at := impl.QueryRead(b); code != impl.ReadWell || at != 0 || told(again) != told(q) {
			t.Errorf("%s: %q is read as %v, %d at %d", what, b, again, code, at)
		}
	}
}

func checkElem(t *testing.T, what string, e impl.Elem, want bool) {
	t.Helper()
	checkQueryOk(t, what, ask(e), want)
	checkQueryOk(t, what+", within", selectAll(optional(), optional(e)), want)
	checkQueryOk(t, what+", within B", ask(union(nil, group(minus(e)))), want)
}

func checkExpr(t *testing.T, what string, e impl.Expr, want bool) {
	t.Helper()
	checkElem(t, what+" asked", filter(e), want)
	checkElem(t, what+" bound", bind(e, "new"), want)
	checkElem(t, what+" as a Kid", filter(ex(impl.ExIf, exVar("a"), ex(impl.ExCoal, exVar("a"), e), exVar("b"))), want)
}

func TestQueryConstants(t *testing.T) {
	got := []int{
		impl.MaxQuery, impl.MaxVars, impl.MaxNodes, impl.MaxDeep, impl.MaxKeys,
		impl.ExVar, impl.ExTerm, impl.ExOp, impl.ExNot, impl.ExBound, impl.ExIf, impl.ExCoal, impl.ExLen,
		impl.OpAdd, impl.OpSub, impl.OpMul, impl.OpDiv, impl.OpLess, impl.OpSame, impl.OpAnd, impl.OpOr,
		impl.ElTriple, impl.ElOptional, impl.ElUnion, impl.ElMinus, impl.ElFilter, impl.ElBind, impl.ElValues,
		impl.FnPlain, impl.FnCount, impl.FnSum,
	}
	want := []int{2000, 8, 120, 10, 4, 0, 1, 2, 3, 4, 5, 6, 7, 0, 1, 2, 3, 4, 5, 6, 7, 0, 1, 2, 3, 4, 5, 6, 0, 1, 2}
	for i := range want {
		if got[i] != want[i] {
			t.Errorf("constant %d: %d, want %d", i, got[i], want[i])
		}
	}
}

// goodExprs has each kind of expression with all that its row of the table says.
func goodExprs() []impl.Expr {
	a, b, five := exVar("a"), exBound("b"), exTerm(number(5, 0))
	return []impl.Expr{
		a, exVar("a1"), exVar("zzzzzzzzzzzz"), b, five, exTerm(name("n")), exTerm(blank(0)), exTerm(text("")), exTerm(text("x")), exTerm(number(-15, 1)),
		exOp(impl.OpAdd, a, b), exOp(impl.OpSub, a, b), exOp(impl.OpMul, a, b), exOp(impl.OpDiv, a, b), exOp(impl.OpLess, a, b), exOp(impl.OpSame, a, b), exOp(impl.OpAnd, a, b), exOp(impl.OpOr, a, a),
		ex(impl.ExNot, a), ex(impl.ExLen, five), ex(impl.ExIf, a, b, five),
		ex(impl.ExCoal, a), ex(impl.ExCoal, a, a), ex(impl.ExCoal, a, b, five), ex(impl.ExCoal, a, b, five, a),
		exOp(impl.OpSub, ex(impl.ExNot, ex(impl.ExLen, a)), ex(impl.ExIf, five, ex(impl.ExCoal, b), exOp(impl.OpOr, five, five))),
	}
}

// goodElems has each kind of element with all that its row of the table says.
func goodElems() []impl.Elem {
	x := has("x")
	return []impl.Elem{
		asked("?a", "?b", "?c"), asked("?a", "?a", "?a"), asked(name("a"), name("p"), name("o")), asked(blank(0), "?p", blank(1)), asked("?x", name("p"), text("")), asked("?x", name("p"), number(-5, 1)),
		optional(), optional(x...), optional(optional(), asked("?a", "?b", "?c")),
		minus(), minus(x...), union(nil, nil), union(x, nil), union(nil, x), union(x, has("y", "z")),
		filter(exVar("a")), filter(exTerm(text(""))), bind(exVar("a"), "b"), bind(exVar("a"), "a"), bind(exTerm(number(0, 0)), "zzzzzzzzzzzz"),
		values("v"), values("v", name("a")), values("v", number(1, 0), number(1, 0), text(""), blank(3)),
	}
}

func TestPartsThatMayBe(t *testing.T) {
	for i, e := range goodExprs() {
		checkExpr(t, fmt.Sprint("expression ", i), e, true)
	}
	for i, e := range goodElems() {
		checkElem(t, fmt.Sprint("element ", i), e, true)
	}
	checkQueryOk(t, "nothing asked", ask(), true)
	checkQueryOk(t, "nothing asked of all", selectAll(), true)
	checkQueryOk(t, "all elements", ask(goodElems()...), false) // too many variables
	checkQueryOk(t, "the zero value", impl.Query{}, true)
}

// elemFields says what may be too many: how to lay it in, and which kinds have it.
func elemFields() map[string]struct {
	lay   func(*impl.Elem)
	kinds string
} {
	type field = struct {
		lay   func(*impl.Elem)
		kinds string
	}
	return map[string]field{
		"S is a variable": {func(e *impl.Elem) { e.Pat.S.Var = []byte("x") }, "0"},
		"S is a name":     {func(e *impl.Elem) { e.Pat.S.Term = name("x") }, "0"},
		"S has a Kind":    {func(e *impl.Elem) { e.Pat.S.Term.Kind = 1 }, "0"},
		"P is a variable": {func(e *impl.Elem) { e.Pat.P.Var = []byte("x") }, "0"},
		"P has an N":      {func(e *impl.Elem) { e.Pat.P.Term.N = 1 }, "0"},
		"O is a variable": {func(e *impl.Elem) { e.Pat.O.Var = []byte("x") }, "0"},
		"O has a Scale":   {func(e *impl.Elem) { e.Pat.O.Term.Scale = -1 }, "0"},
		"O has a Text":    {func(e *impl.Elem) { e.Pat.O.Term.Text = []byte{0} }, "0"},
		"Expr has a Kind": {func(e *impl.Elem) { e.Expr.Kind = 1 }, "45"},
		"Expr has an Op":  {func(e *impl.Elem) { e.Expr.Op = -1 }, "45"},
		"Expr has a Var":  {func(e *impl.Elem) { e.Expr.Var = []byte("x") }, "45"},
		"Expr has a Term": {func(e *impl.Elem) { e.Expr.Term = number(1, 0) }, "45"},
		"Expr has Kids":   {func(e *impl.Elem) { e.Expr.Kids = []impl.Expr{exVar("x")} }, "45"},
		"Expr is one":     {func(e *impl.Elem) { e.Expr = exOp(impl.OpAdd, exVar("x"), exVar("x")) }, "45"},
		"Var":             {func(e *impl.Elem) { e.Var = []byte("x") }, "56"},
		"Terms":           {func(e *impl.Elem) { e.Terms = []impl.Term{name("x")} }, "6"},
		"A":               {func(e *impl.Elem) { e.A = has("x") }, "123"},
		"B":               {func(e *impl.Elem) { e.B = has("x") }, "2"},
	}
}

func TestElementsWithSomethingTooMany(t *testing.T) {
	seen := 0
	for _, e := range goodElems() {
		for what, field := range elemFields() {
			if strings.Contains(field.kinds, fmt.Sprint(e.Kind)) {
				continue
			}
			seen++
			wrong := e
			field.lay(&wrong)
			checkElem(t, fmt.Sprintf("%s in %v", what, e), wrong, false)
		}
	}
	if seen < 200 {
		t.Errorf("%d show too little", seen)
	}
}

func TestElementsWithSomethingTooFew(t *testing.T) {
	x := exVar("x")
	for what, e := range map[string]impl.Elem{
		"the zero value": {}, "no S": {Pat: impl.Pat{P: item("?p"), O: item("?o")}}, "no P": {Pat: impl.Pat{S: item("?p"), O: item("?o")}}, "no O": {Pat: impl.Pat{S: item("?p"), P: item("?o")}},
		"FILTER without Expr": {Kind: impl.ElFilter}, "BIND without Expr": {Kind: impl.ElBind, Var: []byte("v")}, "BIND without Var": {Kind: impl.ElBind, Expr: x},
		"BIND without both": {Kind: impl.ElBind}, "VALUES without Var": {Kind: impl.ElValues, Terms: []impl.Term{name("a")}}, "VALUES without both": {Kind: impl.ElValues},
		"FILTER of what is none": filter(exVar("")), "a group's element is none": optional(asked("?a", "?b", "?c"), impl.Elem{}), "B's element is none": union(has("x"), group(impl.Elem{})),
	} {
		checkElem(t, what, e, false)
	}
	for _, kind := range []int{-1, 7, 8, 100, math.MaxInt, math.MinInt} {
		checkElem(t, fmt.Sprint("kind ", kind), impl.Elem{Kind: kind}, false)
		for _, e := range goodElems() {
			e.Kind = kind
			checkElem(t, fmt.Sprint("kind ", kind), e, false)
		}
	}
}

func badVars() []string {
	return []string{"A", "1", "1a", "aA", "a b", "a_", "?a", " a", "a ", "a\x00", "\xff", "aaaaaaaaaaaaa", strings.Repeat("a", 5000)}
}

func TestVariablesThatAreNone(t *testing.T) {
	for _, v := range badVars() {
		for what, e := range map[string]impl.Elem{
			"as S": {Pat: impl.Pat{S: impl.Item{Var: []byte(v)}, P: item("?p"), O: item("?o")}},
			"as P": {Pat: impl.Pat{S: item("?p"), P: impl.Item{Var: []byte(v)}, O: item("?o")}},
			"as O": {Pat: impl.Pat{S: item("?p"), P: item("?o"), O: impl.Item{Var: []byte(v)}}},
			"told": bind(exVar("x"), v), "among values": values(v, name("a")),
		} {
			checkElem(t, fmt.Sprintf("%q %s", v, what), e, false)
		}
		checkExpr(t, v, exVar(v), false)
		checkExpr(t, "bound "+v, exBound(v), false)
		q := selectAll(has("x")...)
		q.Sels = []impl.Sel{count("x", v)}
		checkQueryOk(t, "COUNT AS "+v, q, false)
		q.Sels = []impl.Sel{plain(v)}
		checkQueryOk(t, "selected "+v, q, false)
	}
	q := selectAll(has("x")...)
	for _, s := range []impl.Sel{plain(""), count("x", ""), count("", "n"), total("x", ""), total("", "n"), {}} {
		q.Sels = []impl.Sel{s}
		checkQueryOk(t, "an empty variable", q, false)
	}
}

func TestItemsByWhereTheyStand(t *testing.T) {
	for _, x := range append(goodTerms(), badTerms()...) {
		isName := impl.TermOk(x) && x.Kind == impl.TmName
		isBlank := impl.TermOk(x) && x.Kind == impl.TmBlank
		checkElem(t, "as S: "+tell(x), asked(x, "?p", "?o"), isName || isBlank)
		checkElem(t, "as P: "+tell(x), asked("?s", x, "?o"), isName)
		checkElem(t, "as O: "+tell(x), asked("?s", "?p", x), impl.TermOk(x))
		checkElem(t, "among values: "+tell(x), values("v", name("a"), x), impl.TermOk(x))
		checkExpr(t, tell(x), exTerm(x), impl.TermOk(x))
		if isZero(x) {
			continue
		}
		both := impl.Item{Var: []byte("v"), Term: x}
		checkElem(t, "both as S", impl.Elem{Pat: impl.Pat{S: both, P: item("?p"), O: item("?o")}}, false)
		checkElem(t, "both as P", impl.Elem{Pat: impl.Pat{S: item("?s"), P: both, O: item("?o")}}, false)
		checkElem(t, "both as O", impl.Elem{Pat: impl.Pat{S: item("?s"), P: item("?p"), O: both}}, false)
	}
}

func TestExpressionsWithSomethingTooMany(t *testing.T) {
	type field struct {
		lay   func(*impl.Expr)
		kinds string
	}
	fields := map[string]field{
		"an Op":        {func(e *impl.Expr) { e.Op = 1 }, "2"},
		"an Op below":  {func(e *impl.Expr) { e.Op = -1 }, ""},
		"an Op beyond": {func(e *impl.Expr) { e.Op = 8 }, ""},
		"the last Op":  {func(e *impl.Expr) { e.Op = 7 }, "2"},
		"the least Op": {func(e *impl.Expr) { e.Op = math.MinInt }, ""},
		"a Var":        {func(e *impl.Expr) { e.Var = []byte("x") }, "04"},
		"a Var's byte": {func(e *impl.Expr) { e.Var = []byte{0} }, ""},
		"a Term":       {func(e *impl.Expr) { e.Term = name("x") }, "1"},
		"a Kind":       {func(e *impl.Expr) { e.Term.Kind = -1 }, ""},
		"an N":         {func(e *impl.Expr) { e.Term.N = -1 }, ""},
		"a Scale":      {func(e *impl.Expr) { e.Term.Scale = 7 }, ""},
	}
	seen := 0
	for _, e := range goodExprs() {
		for what, field := range fields {
			if strings.Contains(field.kinds, fmt.Sprint(e.Kind)) {
				continue
			}
			if e.Kind == impl.ExTerm && impl.TermOk(e.Term) && what == "an N" && e.Term.Kind == impl.TmNum {
				continue // another number with another N
			}
			seen++
			wrong := e
			field.lay(&wrong)
			checkExpr(t, fmt.Sprintf("%s in %v", what, e), wrong, false)
		}
	}
	if seen < 150 {
		t.Errorf("%d show too little", seen)
	}
	for _, kind := range []int{-1, 8, 9, math.MaxInt, math.MinInt} {
		for _, e := range append(goodExprs(), impl.Expr{}) {
			e.Kind = kind
			checkExpr(t, fmt.Sprint("kind ", kind), e, false)
		}
	}
}

func TestKidsOfExpressions(t *testing.T) {
	want := map[int][]int{
		impl.ExVar: {0}, impl.ExBound: {0}, impl.ExTerm: {0}, impl.ExOp: {2}, impl.ExNot: {1}, impl.ExLen: {1}, impl.ExIf: {3}, impl.ExCoal: {1, 2, 3, 4},
	}
	for kind, counts := range want {
		for kids := range 7 {
			e := impl.Expr{Kind: kind}
			switch kind {
			case impl.ExVar, impl.ExBound:
				e.Var = []byte("v")
			case impl.ExTerm:
				e.Term = number(1, 0)
			}
			for range kids {
				e.Kids = append(e.Kids, exVar("a"))
			}
			fits := false
			for _, n := range counts {
				fits = fits || n == kids
			}
			checkExpr(t, fmt.Sprint(kids, " kids of kind ", kind), e, fits)
			for i := range e.Kids {
				wrong := e
				wrong.Kids = append([]impl.Expr{}, e.Kids...)
				wrong.Kids[i] = impl.Expr{}
				checkExpr(t, fmt.Sprint("kid ", i, " of kind ", kind), wrong, false)
			}
		}
	}
}

func TestManyValues(t *testing.T) {
	var terms []impl.Term
	for n := range 12 {
		checkElem(t, fmt.Sprint(n, " values"), values("v", terms...), n <= 8)
		terms = append(terms, number(n, 0))
	}
}

func repeated(count int, e impl.Elem) []impl.Elem {
	var out []impl.Elem
	for range count {
		out = append(out, e)
	}
	return out
}

func TestHowManyParts(t *testing.T) {
	triple, asks := asked("?a", "?a", "?a"), filter(exVar("a"))
	sum := filter(exOp(impl.OpAdd, exVar("a"), ex(impl.ExNot, exVar("a")))) // 5 parts
	for what, full := range map[string][]impl.Elem{
		"triples":              repeated(120, triple),
		"empty groups":         repeated(120, optional()),
		"asked":                repeated(60, asks),
		"sums":                 repeated(24, sum),
		"within":               {optional(repeated(119, triple)...)},
		"in A and B":           {union(repeated(60, triple), repeated(59, triple))},
		"taken away":           {triple, minus(repeated(59, asks)...)},
		"values count as one":  {optional(repeated(119, values("v"))...)},
		"bound in their group": append([]impl.Elem{bind(exVar("a"), "b")}, repeated(118, triple)...),
	} {
		checkQueryOk(t, what, ask(full...), true)
		checkQueryOk(t, what+", all", selectAll(full...), true)
		for name, more := range map[string]impl.Elem{"a triple": triple, "a group": minus(), "values": values("v")} {
			checkQueryOk(t, what+" and "+name+" behind", ask(append(full[:len(full):len(full)], more)...), false)
			checkQueryOk(t, what+" and "+name+" ahead", ask(append([]impl.Elem{more}, full...)...), false)
		}
	}
	checkQueryOk(t, "121 by an expression", ask(append(repeated(119, triple), asks)...), false)
	checkQueryOk(t, "120 by an expression", ask(append(repeated(118, triple), asks)...), true)
	checkQueryOk(t, "121 by a Kid", ask(append(repeated(118, triple), filter(ex(impl.ExNot, exVar("a"))))...), false)
	checkQueryOk(t, "very many", ask(repeated(100000, triple)...), false)
}

func TestHowDeepElements(t *testing.T) {
	ways := []func(impl.Elem) impl.Elem{
		func(e impl.Elem) impl.Elem { return optional(e) },
		func(e impl.Elem) impl.Elem { return optional(optional(), e) },
		func(e impl.Elem) impl.Elem { return minus(e) },
		func(e impl.Elem) impl.Elem { return union(group(e), nil) },
		func(e impl.Elem) impl.Elem { return union(nil, group(e)) },
	}
	leaves := []struct {
		e    impl.Elem
		deep int
	}{
		{asked("?a", "?b", "?c"), 1}, {optional(), 1}, {values("v"), 1}, {filter(exVar("a")), 2}, {bind(exVar("a"), "v"), 2}, {filter(ex(impl.ExNot, exVar("a"))), 3},
	}
	for i, way := range ways {
		for j, leaf := range leaves {
			e := leaf.e
			for deep := leaf.deep; deep <= 13; deep++ {
				checkQueryOk(t, fmt.Sprintf("way %d, leaf %d, %d deep", i, j, deep), ask(e), deep <= 10)
				checkQueryOk(t, fmt.Sprintf("way %d, leaf %d, %d deep, behind", i, j, deep), selectAll(asked("?a", "?b", "?c"), e), deep <= 10)
				e = way(e)
			}
		}
	}
}

func TestHowDeepExpressions(t *testing.T) {
	a := exVar("a")
	ways := []func(impl.Expr) impl.Expr{
		func(e impl.Expr) impl.Expr { return ex(impl.ExNot, e) },
		func(e impl.Expr) impl.Expr { return ex(impl.ExLen, e) },
		func(e impl.Expr) impl.Expr { return exOp(impl.OpSub, e, a) },
		func(e impl.Expr) impl.Expr { return exOp(impl.OpSub, a, e) },
		func(e impl.Expr) impl.Expr { return ex(impl.ExIf, e, a, a) },
		func(e impl.Expr) impl.Expr { return ex(impl.ExIf, a, e, a) },
		func(e impl.Expr) impl.Expr { return ex(impl.ExIf, a, a, e) },
		func(e impl.Expr) impl.Expr { return ex(impl.ExCoal, e) },
		func(e impl.Expr) impl.Expr { return ex(impl.ExCoal, a, a, a, e) },
	}
	for i, way := range ways {
		for j, leaf := range []impl.Expr{a, exBound("b"), exTerm(number(1, 0))} {
			e := leaf
			for deep := 2; deep <= 13; deep++ {
				checkQueryOk(t, fmt.Sprintf("way %d, leaf %d, %d deep", i, j, deep), ask(filter(e)), deep <= 10)
				checkQueryOk(t, fmt.Sprintf("way %d, leaf %d, %d deep, bound", i, j, deep), ask(bind(e, "v")), deep <= 10)
				checkQueryOk(t, fmt.Sprintf("way %d, leaf %d, %d deep, within", i, j, deep+2), ask(optional(minus(filter(e)))), deep+2 <= 10)
				e = way(e)
			}
		}
	}
}

func TestListsThatHoldThemselves(t *testing.T) {
	own := []impl.Elem{optional()}
	own[0].A = own
	checkQueryOk(t, "A holds itself", ask(own...), false)
	two := []impl.Elem{union(nil, nil), minus()}
	two[0].A, two[0].B, two[1].A = two, two, two
	checkQueryOk(t, "A and B hold themselves", ask(two...), false)
	kids := []impl.Expr{ex(impl.ExNot)}
	kids[0].Kids = kids
	checkQueryOk(t, "Kids hold themselves", ask(filter(kids[0])), false)
	wide := repeated(5000, optional())
	for range 8 {
		wide = repeated(5000, optional(wide...))
	}
	checkQueryOk(t, "more than can be gone through", ask(wide...), false)
	e := exVar("a")
	for range 200 {
		e = exOp(impl.OpAdd, e, e)
	}
	checkQueryOk(t, "an expression of that kind", ask(filter(e)), false)
	deep := optional()
	for range 100000 {
		deep = optional(deep)
	}
	checkQueryOk(t, "very deep", ask(deep), false)
}

func TestHowManyVariables(t *testing.T) {
	all := []string{"a", "b", "c", "d", "e", "f", "g", "h", "i"}
	checkQueryOk(t, "8 in patterns", ask(has(all[:8]...)...), true)
	checkQueryOk(t, "9 in patterns", ask(has(all...)...), false)
	eight := has(all[:8]...)
	for what, last := range map[string]func(string) impl.Elem{
		"as P":      func(v string) impl.Elem { return asked("?a", "?"+v, "?b") },
		"as O":      func(v string) impl.Elem { return asked("?a", "?b", "?"+v) },
		"asked":     func(v string) impl.Elem { return filter(exVar(v)) },
		"bound":     func(v string) impl.Elem { return filter(ex(impl.ExNot, exBound(v))) },
		"told":      func(v string) impl.Elem { return minus(bind(exVar("a"), v)) },
		"of told":   func(v string) impl.Elem { return bind(exOp(impl.OpAdd, exVar("a"), exVar(v)), "new") },
		"values":    func(v string) impl.Elem { return values(v) },
		"in A":      func(v string) impl.Elem { return minus(has(v)...) },
		"in B":      func(v string) impl.Elem { return union(nil, has(v)) },
		"far below": func(v string) impl.Elem { return optional(union(nil, group(minus(filter(exVar(v)))))) },
	} {
		if what != "of told" {
			checkQueryOk(t, "8, "+what, ask(append(eight[:8:8], last("c"))...), true)
			checkQueryOk(t, "8, ahead "+what, ask(append([]impl.Elem{last("h")}, eight[:7]...)...), true)
		} else {
			checkQueryOk(t, "8, "+what, ask(append(eight[:7:7], last("c"))...), true)
		}
		checkQueryOk(t, "9, "+what, ask(append(eight[:8:8], last("i"))...), false)
		checkQueryOk(t, "9, ahead "+what, selectAll(append([]impl.Elem{last("i")}, eight...)...), false)
	}
	// A variable that is none of Body's does not count.
	q := selectAll(eight...)
	q.Sels = []impl.Sel{count("a", "n"), total("a", "m")}
	checkQueryOk(t, "8 and two that are told", q, true)
}

func TestWhatIsBoundAhead(t *testing.T) {
	told := bind(exTerm(number(1, 0)), "v")
	uses := asked("?v", name("p"), name("o"))
	binders := map[string]impl.Elem{
		"S": uses, "P": asked("?a", "?v", "?b"), "O": asked("?a", name("p"), "?v"), "BIND": bind(exVar("a"), "v"), "VALUES": values("v", name("a")), "empty VALUES": values("v"),
		"OPTIONAL": optional(uses), "UNION A": union(group(uses), nil), "UNION B": union(nil, group(uses)), "OPTIONAL BIND": optional(told), "OPTIONAL VALUES": optional(values("v")),
		"UNION BIND": union(nil, group(bind(exVar("a"), "v"))), "deeper": optional(union(nil, group(optional(asked("?a", "?b", "?c"), uses)))), "deeper yet": union(group(union(nil, group(optional(told)))), nil),
	}
	others := map[string]impl.Elem{
		"MINUS": minus(uses), "MINUS BIND": minus(told), "MINUS VALUES": minus(values("v")), "FILTER": filter(exVar("v")), "FILTER BOUND": filter(ex(impl.ExNot, exBound("v"))),
		"another BIND's expression": bind(exVar("v"), "w"), "within OPTIONAL's MINUS": optional(minus(uses)), "within UNION's FILTER": union(group(filter(exVar("v"))), group(filter(exVar("v")))),
		"MINUS OPTIONAL": minus(optional(uses)), "nothing": optional(), "another variable": asked("?va", "?vb", "?w"),
	}
	within := []func(...impl.Elem) impl.Elem{
		optional, minus,
		func(list ...impl.Elem) impl.Elem { return union(list, nil) },
		func(list ...impl.Elem) impl.Elem { return union(nil, list) },
	}
	for what, e := range binders {
		checkQueryOk(t, what+" ahead", ask(e, told), false)
		checkQueryOk(t, what+" ahead, something between", selectAll(e, minus(), filter(exVar("v")), told), false)
		checkQueryOk(t, what+" ahead, behind something", ask(optional(), e, told, uses), false)
		if e.Kind != impl.ElBind {
			checkQueryOk(t, what+" behind", ask(told, e), true)
		}
		for i, in := range within {
			checkQueryOk(t, fmt.Sprint(what, " ahead, both within ", i), ask(in(e, told)), false)
			checkQueryOk(t, fmt.Sprint(what, " around ", i), ask(e, in(told)), true)
			checkQueryOk(t, fmt.Sprint(what, " beside, in a group of its own ", i), ask(in(e), told), i == 1)
		}
	}
	for what, e := range others {
		checkQueryOk(t, what+" ahead", ask(e, told), true)
		checkQueryOk(t, what+" behind", ask(told, e), true)
		for i, in := range within {
			checkQueryOk(t, fmt.Sprint(what, " ahead, both within ", i), ask(in(e, told)), true)
		}
	}
	checkQueryOk(t, "told twice", ask(told, told), false)
	checkQueryOk(t, "told in both", ask(union(group(told), group(told))), true)
	checkQueryOk(t, "told of itself", ask(bind(exVar("v"), "v")), true)
	checkQueryOk(t, "told of itself ahead", ask(uses, bind(exVar("v"), "v")), false)
	checkQueryOk(t, "told and told within", ask(told, optional(told)), true)
	checkQueryOk(t, "told within and told", ask(optional(told), told), false)
}

func TestLimitAndOffset(t *testing.T) {
	for limit, want := range map[int]bool{-2: false, -1: true, 0: true, 1: true, 999: true, 1000: false, math.MaxInt: false, math.MinInt: false} {
		q := selectAll(has("x")...)
		q.Limit = limit
		checkQueryOk(t, fmt.Sprint("limit ", limit), q, want)
	}
	for offset, want := range map[int]bool{-1: false, 0: true, 1: true, 999: true, 1000: false, math.MaxInt: false, math.MinInt: false} {
		q := selectAll(has("x")...)
		q.Offset = offset
		checkQueryOk(t, fmt.Sprint("offset ", offset), q, want)
		q.Limit = 999
		checkQueryOk(t, fmt.Sprint("both, offset ", offset), q, want)
	}
}

func TestAskHasNothingElse(t *testing.T) {
	for what, lay := range map[string]func(*impl.Query){
		"Distinct": func(q *impl.Query) { q.Distinct = true },
		"Sels":     func(q *impl.Query) { q.Sels = []impl.Sel{plain("x")} },
		"Group":    func(q *impl.Query) { q.Group = vars("x") },
		"Order":    func(q *impl.Query) { q.Order = []impl.Key{up("x")} },
		"Limit 0":  func(q *impl.Query) { q.Limit = 0 },
		"Limit":    func(q *impl.Query) { q.Limit = 5 },
		"Limit -2": func(q *impl.Query) { q.Limit = -2 },
		"Offset":   func(q *impl.Query) { q.Offset = 1 },
		"below":    func(q *impl.Query) { q.Offset = -1 },
	} {
		q := ask(has("x")...)
		lay(&q)
		checkQueryOk(t, what, q, false)
	}
	q := ask(has("x")...)
	q.Sels, q.Group, q.Order = []impl.Sel{}, [][]byte{}, []impl.Key{}
	checkQueryOk(t, "empty lists", q, true)
}

func TestWhatIsSelected(t *testing.T) {
	body := []impl.Elem{asked("?x", "?y", "?z"), filter(exVar("f")), bind(exBound("g"), "b"), minus(values("v"))}
	for what, c := range map[string]struct {
		sels []impl.Sel
		want bool
	}{
		"one": {[]impl.Sel{plain("x")}, true}, "all": {[]impl.Sel{plain("v"), plain("b"), plain("g"), plain("f"), plain("z"), plain("y"), plain("x")}, true},
		"one that is not there": {[]impl.Sel{plain("n")}, false}, "two alike": {[]impl.Sel{plain("x"), plain("y"), plain("x")}, false},
		"with an Of": {[]impl.Sel{{Of: []byte("y"), Var: []byte("x")}}, false}, "of itself": {[]impl.Sel{{Of: []byte("x"), Var: []byte("x")}}, false},
		"counted": {[]impl.Sel{count("x", "n")}, true}, "summed": {[]impl.Sel{total("f", "n")}, true}, "both": {[]impl.Sel{count("x", "n"), total("x", "m")}, true},
		"counted as what is there": {[]impl.Sel{count("x", "y")}, false}, "counted as itself": {[]impl.Sel{count("x", "x")}, false}, "summed as what is there": {[]impl.Sel{total("x", "f")}, false},
		"counted, not there": {[]impl.Sel{count("n", "m")}, false}, "summed, not there": {[]impl.Sel{total("n", "m")}, false}, "counted twice as one": {[]impl.Sel{count("x", "n"), count("y", "n")}, false},
		"counted and summed as one": {[]impl.Sel{count("x", "n"), total("y", "n")}, false}, "of what is told": {[]impl.Sel{count("x", "n"), count("n", "m")}, false},
		"plain beside counted": {[]impl.Sel{count("x", "n"), plain("x")}, false}, "plain ahead of summed": {[]impl.Sel{plain("x"), total("x", "n")}, false},
		"another Fn": {[]impl.Sel{{Fn: 3, Of: []byte("x"), Var: []byte("n")}}, false}, "an Fn below": {[]impl.Sel{{Fn: -1, Of: []byte("x"), Var: []byte("n")}}, false}, "another plain": {[]impl.Sel{{Fn: 3, Var: []byte("x")}}, false},
	} {
		q := selectAll(body...)
		q.Sels = c.sels
		checkQueryOk(t, what, q, c.want)
		q.Distinct = true
		checkQueryOk(t, what+", distinct", q, c.want)
	}
	var sels []impl.Sel
	for i := range 11 {
		q := selectAll(has("x")...)
		q.Sels = sels
		checkQueryOk(t, fmt.Sprint(i, " Sels"), q, i <= 8)
		sels = append(sels, count("x", fmt.Sprint("n", i)))
	}
}

func TestGroups(t *testing.T) {
	body := has("a", "b", "c", "d", "e")
	for what, c := range map[string]struct {
		sels  []impl.Sel
		group [][]byte
		want  bool
	}{
		"without Sels": {nil, vars("a"), false}, "plain": {[]impl.Sel{plain("a")}, vars("a"), true}, "plain, not in it": {[]impl.Sel{plain("b")}, vars("a"), false},
		"one of two": {[]impl.Sel{plain("b")}, vars("a", "b"), true}, "one not in it": {[]impl.Sel{plain("a"), plain("b")}, vars("a"), false},
		"counted alone": {[]impl.Sel{count("b", "n")}, vars("a"), true}, "counted of itself": {[]impl.Sel{plain("a"), count("a", "n")}, vars("a"), true}, "counted, plain not in it": {[]impl.Sel{count("a", "n"), plain("b")}, vars("a"), false},
		"four": {[]impl.Sel{plain("d")}, vars("a", "b", "c", "d"), true}, "five": {[]impl.Sel{plain("d")}, vars("a", "b", "c", "d", "e"), false},
		"two alike": {[]impl.Sel{plain("a")}, vars("a", "a"), false}, "two alike, apart": {[]impl.Sel{plain("a")}, vars("a", "b", "a"), false}, "not there": {[]impl.Sel{plain("a")}, vars("a", "f"), false},
		"by what is told": {[]impl.Sel{count("a", "n")}, vars("n"), false}, "none": {[]impl.Sel{plain("a")}, vars(""), false}, "one and none": {[]impl.Sel{plain("a")}, vars("a", ""), false},
	} {
		q := selectAll(body...)
		q.Sels, q.Group = c.sels, c.group
		checkQueryOk(t, what, q, c.want)
	}
}

func TestOrders(t *testing.T) {
	body := has("a", "b", "c", "d", "e")
	for what, c := range map[string]struct {
		sels  []impl.Sel
		order []impl.Key
		want  bool
	}{
		"of all": {nil, []impl.Key{up("a"), down("e")}, true}, "not there": {nil, []impl.Key{up("f")}, false}, "none": {nil, []impl.Key{up("")}, false}, "none, down": {nil, []impl.Key{up("a"), down("")}, false},
		"selected": {[]impl.Sel{plain("a"), plain("b")}, []impl.Key{down("b")}, true}, "not selected": {[]impl.Sel{plain("a"), plain("b")}, []impl.Key{up("c")}, false}, "one not selected": {[]impl.Sel{plain("a")}, []impl.Key{up("a"), down("b")}, false},
		"told": {[]impl.Sel{count("a", "n")}, []impl.Key{down("n")}, true}, "what is counted": {[]impl.Sel{count("a", "n")}, []impl.Key{up("a")}, false},
		"four": {nil, []impl.Key{up("a"), up("b"), up("c"), up("d")}, true}, "five": {nil, []impl.Key{up("a"), up("b"), up("c"), up("d"), up("e")}, false},
		"alike": {nil, []impl.Key{up("a"), down("a"), up("a"), up("a")}, true}, "five alike": {nil, []impl.Key{up("a"), up("a"), up("a"), up("a"), up("a")}, false},
	} {
		q := selectAll(body...)
		q.Sels, q.Order = c.sels, c.order
		checkQueryOk(t, what, q, c.want)
	}
	q := selectAll(has("a", "b")...)
	q.Sels, q.Group, q.Order = []impl.Sel{count("b", "n")}, vars("a"), []impl.Key{up("a")}
	checkQueryOk(t, "by what is in Group alone", q, false)
}

func TestVarsInTheOrderInWhichTheyCome(t *testing.T) {
	for _, c := range []struct {
		q    impl.Query
		want string
	}{
		{ask(), ""}, {ask(asked("?c", "?b", "?a")), "c b a"}, {ask(asked("?a", "?a", "?b"), asked("?b", name("p"), "?c")), "a b c"},
		{ask(filter(exOp(impl.OpAdd, exOp(impl.OpSub, exVar("d"), exBound("c")), ex(impl.ExIf, exVar("b"), exVar("d"), exVar("a"))))), "d c b a"},
		{ask(bind(exOp(impl.OpAdd, exVar("z"), exVar("y")), "x"), values("w")), "z y x w"},
		{ask(bind(ex(impl.ExCoal, exVar("a"), exVar("b"), exVar("c"), exVar("d")), "a")), "a b c d"},
		{ask(union(has("b", "a"), has("d", "c")), optional(has("e")...), minus(has("g", "f")...)), "b a d c e g f"},
		{ask(optional(optional(has("c")...), filter(exVar("b"))), asked("?a", "?b", "?c")), "c b a"},
		{ask(values("v", name("a")), asked(name("x"), name("y"), "?v")), "v"},
		{ask(has("h", "g", "f", "e", "d", "c", "b", "a")...), "h g f e d c b a"},
		{ask(has("h", "g", "f", "e", "d", "c", "b", "a", "i")...), ""},
	} {
		if got := tellVars(impl.Vars(c.q)); got != c.want {
			t.Errorf("%v: %q, want %q", c.q, got, c.want)
		}
	}
	// What is told besides is none of Body's.
	q := selectAll(has("b", "a")...)
	q.Sels, q.Group, q.Order = []impl.Sel{count("a", "n"), plain("a")}, vars("a"), []impl.Key{down("n")}
	if got := tellVars(impl.Vars(q)); got != "b a" {
		t.Error(got)
	}
}

// longBody makes, behind ASK, a query of so many bytes, in 1971 .. 2001.
func longBody(bytes int) []impl.Elem {
	var body []impl.Elem
	for range 7 { // 278 bytes each
		full := values("v")
		for range 8 {
			full.Terms = append(full.Terms, text(strings.Repeat("a", 30)))
		}
		body = append(body, full)
	}
	return append(body, values("v", text(strings.Repeat("a", bytes-8-7*278-17))))
}

func TestLongQueries(t *testing.T) {
	for _, size := range []int{1971, 1999, 2000} {
		q := ask(longBody(size)...)
		checkQueryOk(t, fmt.Sprint(size, " bytes"), q, true)
		if b, _ := impl.QueryText(q); len(b) != size {
			t.Errorf("%d bytes, want %d", len(b), size)
		}
	}
	checkQueryOk(t, "2001 bytes", ask(longBody(2001)...), false)
	q := selectAll(longBody(1989)...)
	checkQueryOk(t, "2000 bytes, all", q, true) // 11 more than with ASK
	q.Offset = 1
	checkQueryOk(t, "2009 bytes, all", q, false)
	q = selectAll(longBody(1980)...)
	q.Offset = 1
	checkQueryOk(t, "2000 bytes with OFFSET", q, true)
	q.Offset = 10
	checkQueryOk(t, "2001 bytes with OFFSET", q, false)
	q = selectAll(longBody(1978)...)
	q.Distinct = true
	checkQueryOk(t, "1998 bytes with DISTINCT", q, true)
	q.Body = longBody(1981)
	checkQueryOk(t, "2001 bytes with DISTINCT", q, false)
	// By escapes, too, a text grows.
	q = ask(longBody(2000)...)
	q.Body[3].Terms[5] = text(strings.Repeat("a", 29) + "\\")
	checkQueryOk(t, "2001 bytes with an escape", q, false)
}

// keptElem has of an element what its kind has by the table, and its Kind.
func keptElem(e impl.Elem) impl.Elem {
	switch e.Kind {
	case 0:
		return impl.Elem{Pat: e.Pat}
	case 1, 3:
		return impl.Elem{Kind: e.Kind, A: e.A}
	case 2:
		return impl.Elem{Kind: 2, A: e.A, B: e.B}
	case 4:
		return impl.Elem{Kind: 4, Expr: e.Expr}
	case 5:
		return impl.Elem{Kind: 5, Expr: e.Expr, Var: e.Var}
	}
	return impl.Elem{Kind: 6, Var: e.Var, Terms: e.Terms}
}

func keptExpr(e impl.Expr) impl.Expr {
	switch e.Kind {
	case 0, 4:
		return impl.Expr{Kind: e.Kind, Var: e.Var}
	case 1:
		return impl.Expr{Kind: 1, Term: e.Term}
	case 2:
		return impl.Expr{Kind: 2, Op: e.Op, Kids: e.Kids}
	}
	return impl.Expr{Kind: e.Kind, Kids: e.Kids}
}

// meaning is a walk over a query by the document's words: it notes what it saw.
type meaning struct {
	wrong bool
	nodes int
	deep  int
	vars  []string
}

func (m *meaning) want(ok bool) { m.wrong = m.wrong || !ok }

func isMeantVar(v []byte) bool { return varWhole.MatchString("?" + string(v)) }

func (m *meaning) variable(v []byte) {
	m.want(isMeantVar(v))
	for _, old := range m.vars {
		if old == string(v) {
			return
		}
	}
	m.vars = append(m.vars, string(v))
}

func (m *meaning) item(i impl.Item, kinds string) {
	if isZero(i.Term) {
		m.variable(i.Var)
		return
	}
	m.want(len(i.Var) == 0 && impl.TermOk(i.Term) && strings.Contains(kinds, fmt.Sprint(i.Term.Kind)))
}

func (m *meaning) expr(e impl.Expr, depth int) {
	m.nodes++
	m.deep = max(m.deep, depth)
	kids := map[int]string{0: "0", 1: "0", 2: "2", 3: "1", 4: "0", 5: "3", 6: "1234", 7: "1"}[e.Kind]
	m.want(told(e) == told(keptExpr(e)) && kids != "" && strings.Contains(kids, fmt.Sprint(len(e.Kids))))
	switch e.Kind {
	case 0, 4:
		m.variable(e.Var)
	case 1:
		m.want(impl.TermOk(e.Term))
	case 2:
		m.want(e.Op >= 0 && e.Op < 8)
	}
	for _, kid := range e.Kids {
		m.expr(kid, depth+1)
	}
}

// group tells which variables are bound in it.
func (m *meaning) group(list []impl.Elem, depth int) map[string]bool {
	bound := map[string]bool{}
	for _, e := range list {
		m.nodes++
		m.deep = max(m.deep, depth)
		m.want(e.Kind >= 0 && e.Kind <= 6 && told(e) == told(keptElem(e)))
		switch e.Kind {
		case impl.ElTriple:
			m.item(e.Pat.S, "01")
			m.item(e.Pat.P, "0")
			m.item(e.Pat.O, "0123")
			bound[string(e.Pat.S.Var)], bound[string(e.Pat.P.Var)], bound[string(e.Pat.O.Var)] = true, true, true
		case impl.ElFilter:
			m.expr(e.Expr, depth+1)
		case impl.ElBind:
			m.expr(e.Expr, depth+1)
			m.variable(e.Var)
			m.want(!bound[string(e.Var)])
			bound[string(e.Var)] = true
		case impl.ElValues:
			m.variable(e.Var)
			bound[string(e.Var)] = true
			m.want(len(e.Terms) <= 8)
			for _, x := range e.Terms {
				m.want(impl.TermOk(x))
			}
		}
		for _, below := range []map[string]bool{m.group(e.A, depth+1), m.group(e.B, depth+1)} {
			for v := range below {
				if e.Kind != impl.ElMinus {
					bound[v] = true
				}
			}
		}
	}
	return bound
}

func (m *meaning) isIn(v []byte) bool {
	return strings.Contains(" "+strings.Join(m.vars, " ")+" ", " "+string(v)+" ") && isMeantVar(v)
}

// rest notes what is wrong with all but the body.
func (m *meaning) rest(q impl.Query) {
	if q.Ask {
		m.want(told(q) == told(ask(q.Body...)))
		return
	}
	selected, grouped := map[string]int{}, map[string]int{}
	for _, v := range q.Group {
		grouped[string(v)]++
		m.want(m.isIn(v) && grouped[string(v)] == 1)
	}
	isGrouped := len(q.Group) > 0
	for _, s := range q.Sels {
		isGrouped = isGrouped || s.Fn != 0
	}
	for _, s := range q.Sels {
		selected[string(s.Var)]++
		m.want(isMeantVar(s.Var) && selected[string(s.Var)] == 1 && s.Fn >= 0 && s.Fn <= 2)
		m.want(s.Fn == 0 && len(s.Of) == 0 && m.isIn(s.Var) || s.Fn != 0 && m.isIn(s.Of) && !m.isIn(s.Var))
		m.want(!isGrouped || s.Fn != 0 || grouped[string(s.Var)] > 0)
	}
	m.want(!isGrouped || len(q.Sels) > 0)
	for _, k := range q.Order {
		m.want(len(q.Sels) == 0 && m.isIn(k.Var) || selected[string(k.Var)] > 0)
	}
	m.want(len(q.Sels) <= 8 && len(q.Group) <= 4 && len(q.Order) <= 4)
	m.want(q.Limit >= -1 && q.Limit <= 999 && q.Offset >= 0 && q.Offset <= 999)
}

// meantVars tells a query's variables, and whether it may be at all.
func meantVars(q impl.Query) ([]string, bool) {
	m := &meaning{}
	m.group(q.Body, 1)
	m.rest(q)
	m.want(m.nodes <= 120 && m.deep <= 10 && len(m.vars) <= 8)
	m.want(len(strings.Join(meantTokens(q), " "))+1 <= 2000)
	if m.wrong {
		return nil, false
	}
	return m.vars, true
}

func pick[T any](source *rand.Rand, list ...T) T { return list[source.Intn(len(list))] }

// maker makes queries of which many may be, and many miss it by a little.
type maker struct {
	*rand.Rand
	names []string
	wild  int // one part in so many has something wrong; 0: none
}

func (m maker) variable() []byte { return []byte(pick(m.Rand, m.names...)) }

func (m maker) goesWild() bool { return m.wild > 0 && m.Intn(m.wild) == 0 }

func (m maker) term() impl.Term {
	if m.goesWild() {
		return pick(m.Rand, badTerms()...)
	}
	return pick(m.Rand, goodTerms()...)
}

func (m maker) item(kinds ...int) impl.Item {
	if m.Intn(2) == 0 {
		return impl.Item{Var: m.variable()}
	}
	if m.goesWild() {
		return impl.Item{Term: m.term()}
	}
	return impl.Item{Term: randomTerm(m.Rand, kinds...)}
}

func (m maker) expr(deep int) impl.Expr {
	if deep <= 0 || m.Intn(3) == 0 {
		return pick(m.Rand, exVar(string(m.variable())), exBound(string(m.variable())), exTerm(m.term()))
	}
	e := impl.Expr{Kind: pick(m.Rand, 2, 2, 2, 3, 5, 6, 7)}
	kids := map[int]int{2: 2, 3: 1, 5: 3, 6: 1 + m.Intn(4), 7: 1}[e.Kind]
	if m.goesWild() {
		kids = m.Intn(6)
	}
	for range kids {
		e.Kids = append(e.Kids, m.expr(deep-1))
	}
	if e.Kind == impl.ExOp {
		e.Op = m.Intn(8)
	}
	if m.goesWild() {
		pick(m.Rand, func() { e.Op = m.Intn(12) - 2 }, func() { e.Kind = m.Intn(10) - 1 }, func() { e.Var = m.variable() }, func() { e.Term = m.term() })()
	}
	return e
}

func (m maker) elem(deep int) impl.Elem {
	e := impl.Elem{Kind: pick(m.Rand, 0, 0, 0, 0, 1, 2, 3, 4, 5, 5, 6)}
	switch e.Kind {
	case impl.ElTriple:
		e.Pat = impl.Pat{S: m.item(0, 1), P: m.item(0), O: m.item(0, 1, 2, 3)}
	case impl.ElOptional, impl.ElMinus:
		e.A = m.group(deep - 1)
	case impl.ElUnion:
		e.A, e.B = m.group(deep-1), m.group(deep-1)
	case impl.ElFilter:
		e.Expr = m.expr(deep - 1)
	case impl.ElBind:
		e.Expr, e.Var = m.expr(deep-1), m.variable()
	case impl.ElValues:
		e.Var = m.variable()
		for range m.Intn(4) {
			e.Terms = append(e.Terms, m.term())
		}
	}
	if m.goesWild() {
		pick(m.Rand, func() { e.Kind = m.Intn(9) - 1 }, func() { e.Var = m.variable() }, func() { e.Expr = m.expr(1) }, func() { e.A = has("a") }, func() { e.B = has("a") },
			func() { e.Terms = append(e.Terms, goodTerms()[:6]...) }, func() { e.Pat.P.Var = m.variable() }, func() { e.Pat.O.Term.N = 1 }, func() { e.Var = nil })()
	}
	return e
}

func (m maker) group(deep int) []impl.Elem {
	var list []impl.Elem
	if deep <= 0 {
		return list
	}
	for range m.Intn(4) {
		list = append(list, m.elem(deep))
	}
	return list
}

func (m maker) query() impl.Query {
	q := impl.Query{Body: m.group(m.Intn(6)), Limit: -1}
	if m.Intn(4) == 0 {
		q.Ask = true
		if !m.goesWild() {
			return q
		}
	}
	body, _ := meantVars(impl.Query{Ask: true, Body: q.Body, Limit: -1})
	q.Distinct = m.Intn(2) == 0
	if m.Intn(2) == 0 {
		q.Limit = pick(m.Rand, 0, 1, 10, 999)
	}
	if m.Intn(2) == 0 {
		q.Offset = pick(m.Rand, 1, 7, 999)
	}
	if len(body) > 0 {
		m.selection(&q, body)
	}
	if m.goesWild() {
		pick(m.Rand, func() { q.Limit = pick(m.Rand, -2, 1000) }, func() { q.Offset = pick(m.Rand, -1, 1000) }, func() { q.Sels = nil }, func() { q.Group = vars("a") }, func() { q.Order = append(q.Order, up("a")) },
			func() { q.Sels = append(q.Sels, count("a", "b")) }, func() { q.Sels = append(q.Sels, plain("a")) }, func() { q.Group = append(q.Group, q.Group...) }, func() { q.Order = append(q.Order, append(q.Order, q.Order...)...) })()
	}
	return q
}

func (m maker) selection(q *impl.Query, body []string) {
	order := append([]string{}, body...)
	m.Shuffle(len(order), func(i, j int) { order[i], order[j] = order[j], order[i] })
	some := order[:m.Intn(len(order)+1)]
	told := body
	switch m.Intn(3) {
	case 0:
		for _, v := range some {
			q.Sels = append(q.Sels, plain(v))
		}
	case 1:
		q.Group = vars(some[:min(len(some), 4)]...)
		for _, v := range q.Group {
			if m.Intn(2) == 0 {
				q.Sels = append(q.Sels, plain(string(v)))
			}
		}
		q.Sels = append(q.Sels, count(pick(m.Rand, body...), "told"))
		if m.Intn(2) == 0 {
			q.Sels = append(q.Sels, total(pick(m.Rand, body...), "x9"))
		}
	}
	if len(q.Sels) > 0 {
		told = nil
		for _, s := range q.Sels {
			told = append(told, string(s.Var))
		}
	}
	for range m.Intn(5) {
		q.Order = append(q.Order, impl.Key{Var: []byte(pick(m.Rand, told...)), Down: m.Intn(2) == 0})
	}
}

func someNames(source *rand.Rand) []string {
	all := []string{"a", "b", "c", "d1", "e", "f", "gg", "h", "i", "zzzzzzzzzzzz"}
	return all[:1+source.Intn(len(all))]
}

func TestQueriesAsMeant(t *testing.T) {
	source := rand.New(rand.NewSource(41))
	var may, mayNot int
	for i := range 15000 {
		q := maker{source, someNames(source), pick(source, 5, 15, 40)}.query()
		want, ok := meantVars(q)
		checkQueryOk(t, fmt.Sprint("query ", i), q, ok)
		if got := tellVars(impl.Vars(q)); got != strings.Join(want, " ") {
			t.Errorf("%v: %q, want %q", q, got, want)
		}
		if t.Failed() {
			return
		}
		if ok {
			may++
		} else {
			mayNot++
		}
	}
	if may < 3000 || mayNot < 3000 {
		t.Errorf("%d that may be and %d that may not show too little", may, mayNot)
	}
}
