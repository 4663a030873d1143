package tests

import (
	"fmt"
	"math"
	"math/rand"
	"strings"
	"testing"

	"loop.example/g00347/impl"
)

// keptPlan has of a plan what its kind has by the document, but for Kids, and its Kind.
func keptPlan(p impl.Plan) impl.Plan {
	switch p.Kind {
	case 0:
		return impl.Plan{Order: p.Order, Pat: p.Pat}
	case 2, 5:
		return impl.Plan{Kind: p.Kind, Expr: p.Expr}
	case 6:
		return impl.Plan{Kind: 6, Expr: p.Expr, Var: p.Var}
	case 7:
		return impl.Plan{Kind: 7, Var: p.Var, Terms: p.Terms}
	}
	return impl.Plan{Kind: p.Kind}
}

// planMeaning is a walk over a plan by the document's words.
type planMeaning struct {
	meaning
	deepPlan int
}

func (m *planMeaning) plan(p impl.Plan, depth int) {
	m.nodes++
	m.deepPlan = max(m.deepPlan, depth)
	alone := p
	alone.Kids = nil // they are asked by themselves
	m.want(p.Kind >= 0 && p.Kind <= 8 && told(alone) == told(keptPlan(alone)))
	m.want(len(p.Kids) == map[int]int{0: 1, 1: 2, 2: 2, 3: 2, 4: 2, 5: 1, 6: 1}[p.Kind] && len(p.Terms) <= 8)
	for _, x := range p.Terms {
		m.want(impl.TermOk(x))
	}
	switch p.Kind {
	case 0:
		m.want(p.Order >= 0 && p.Order <= 5)
		m.item(p.Pat.S, "01")
		m.item(p.Pat.P, "0")
		m.item(p.Pat.O, "0123")
	case 2, 5, 6:
		m.expr(p.Expr, 1)
	}
	if p.Kind == 6 || p.Kind == 7 {
		m.variable(p.Var)
	}
	for _, kid := range p.Kids {
		m.plan(kid, depth+1)
	}
}

func walkPlan(p impl.Plan) *planMeaning {
	m := &planMeaning{}
	m.plan(p, 1)
	return m
}

func isMeantPlan(p impl.Plan) bool {
	m := walkPlan(p)
	return !m.wrong && m.nodes <= 1440 && m.deepPlan <= 480 && m.deep <= 120 && len(m.vars) <= 8
}

func checkPlanOk(t *testing.T, what string, p impl.Plan, want bool) {
	t.Helper()
	if impl.PlanOk(p) != want {
		t.Errorf("%s: PlanOk is %v", what, !want)
	}
	if a, ok := impl.Meaning(p); ok != want || !ok && told(a) != told(impl.Alg{}) {
		t.Errorf("%s: Meaning tells %v", what, ok)
	}
}

// planWays put a plan one deeper.
func planWays() map[string]func(impl.Plan) impl.Plan {
	one := exTerm(number(1, 0))
	return map[string]func(impl.Plan) impl.Plan{
		"nested":            func(p impl.Plan) impl.Plan { return plNest(p, 4, pattern("?a", "?a", "?a")) },
		"joined, first":     func(p impl.Plan) impl.Plan { return plHash(p, plUnit()) },
		"joined, second":    func(p impl.Plan) impl.Plan { return plHash(plRows("a"), p) },
		"left, first":       func(p impl.Plan) impl.Plan { return plLeft(p, plUnit(), one) },
		"left, second":      func(p impl.Plan) impl.Plan { return plLeft(plUnit(), p, one) },
		"united, first":     func(p impl.Plan) impl.Plan { return plPair(impl.PlUnion, p, plUnit()) },
		"united, second":    func(p impl.Plan) impl.Plan { return plPair(impl.PlUnion, plUnit(), p) },
		"taken away, first": func(p impl.Plan) impl.Plan { return plPair(impl.PlMinus, p, plUnit()) },
		"taken away":        func(p impl.Plan) impl.Plan { return plPair(impl.PlMinus, plUnit(), p) },
		"asked":             func(p impl.Plan) impl.Plan { return plFilter(p, one) },
		"told":              func(p impl.Plan) impl.Plan { return plExtend(p, "a", one) },
	}
}

// checkPlanWithin asks of a plan by itself and as a Kid of each kind.
func checkPlanWithin(t *testing.T, what string, p impl.Plan, want bool) {
	t.Helper()
	checkPlanOk(t, what, p, want)
	for how, way := range planWays() {
		checkPlanOk(t, what+", "+how, way(p), want)
		checkPlanOk(t, what+", far below, "+how, plNest(plHash(plUnit(), plFilter(way(p), exVar("a"))), 1, pattern("?a", "?a", "?a")), want)
	}
}

// goodPlans has each kind of plan with all that the document says it has.
func goodPlans() []impl.Plan {
	a, b := plNest(plUnit(), 0, pattern("?a", name("p"), number(1, 0))), plRows("b", number(1, 0))
	out := []impl.Plan{
		plUnit(), a, b, plRows("v"), plRows("zzzzzzzzzzzz", number(1, 0), number(1, 0), text(""), blank(3)), plHash(a, b), plPair(impl.PlUnion, plUnit(), plUnit()), plPair(impl.PlMinus, a, a),
		plNest(b, 5, pattern(blank(0), "?p", number(-5, 1))), plNest(a, 3, pattern(name("s"), name("p"), text(""))), plNest(a, 2, pattern("?s", "?s", "?s")), plHash(plFilter(a, exVar("b")), plExtend(b, "a", exBound("c"))),
	}
	for _, e := range goodExprs() {
		out = append(out, plLeft(a, b, e), plFilter(a, e), plExtend(b, "a", e))
	}
	return out
}

func TestPlansThatMayBe(t *testing.T) {
	for i, p := range goodPlans() {
		checkPlanWithin(t, fmt.Sprint("plan ", i), p, true)
	}
	bare := func(kind int) impl.Plan {
		return impl.Plan{Kind: kind, Pat: impl.Pat{S: impl.Item{Var: []byte{}, Term: impl.Term{Text: []byte{}}}}, Expr: impl.Expr{Var: []byte{}, Kids: []impl.Expr{}}, Var: []byte{}, Terms: []impl.Term{}, Kids: []impl.Plan{}}
	}
	checkPlanWithin(t, "empty lists", bare(impl.PlUnit), true)
	checkPlanWithin(t, "the zero value", impl.Plan{}, false)
	checkPlanWithin(t, "the zero value with empty lists", bare(0), false)
}

func TestOrdersOfPlans(t *testing.T) {
	for _, order := range []int{-7, -1, 0, 1, 2, 3, 4, 5, 6, 7, 100, math.MaxInt, math.MinInt} {
		checkPlanWithin(t, fmt.Sprint("order ", order), plNest(plUnit(), order, pattern("?a", "?b", "?c")), order >= 0 && order <= 5)
		for _, p := range goodPlans() {
			if p.Kind != impl.PlNest {
				p.Order = order
				checkPlanOk(t, fmt.Sprint("order ", order, " of kind ", p.Kind), p, order == 0)
			}
		}
	}
}

func TestPlansWithSomethingTooMany(t *testing.T) {
	type field struct {
		lay   func(*impl.Plan)
		kinds string
	}
	fields := map[string]field{
		"an Order":        {func(p *impl.Plan) { p.Order = 1 }, "0"},
		"a Pat":           {func(p *impl.Plan) { p.Pat = pattern("?a", "?b", "?c") }, "0"},
		"a part of Pat":   {func(p *impl.Plan) { p.Pat.O = item("?o") }, "0"},
		"a Term's N":      {func(p *impl.Plan) { p.Pat.S.Term.N = 1 }, "0"},
		"P's Kind":        {func(p *impl.Plan) { p.Pat.P.Term.Kind = 1 }, ""},
		"Expr has a Kind": {func(p *impl.Plan) { p.Expr.Kind = 1 }, "256"},
		"Expr has an Op":  {func(p *impl.Plan) { p.Expr.Op = -1 }, ""},
		"Expr has a Var":  {func(p *impl.Plan) { p.Expr.Var = []byte("a") }, "256"},
		"Expr has an N":   {func(p *impl.Plan) { p.Expr.Term.N = 1 }, "256"},
		"Expr has Kids":   {func(p *impl.Plan) { p.Expr.Kids = []impl.Expr{exVar("a")} }, "256"},
		"Expr is one":     {func(p *impl.Plan) { p.Expr = exOp(impl.OpAdd, exVar("a"), exVar("a")) }, "256"},
		"Var":             {func(p *impl.Plan) { p.Var = []byte("a") }, "67"},
		"a byte of Var":   {func(p *impl.Plan) { p.Var = []byte{0} }, ""},
		"Terms":           {func(p *impl.Plan) { p.Terms = []impl.Term{name("a")} }, "7"},
		"a zero term":     {func(p *impl.Plan) { p.Terms = append(p.Terms[:len(p.Terms):len(p.Terms)], impl.Term{}) }, ""},
		"one Kid more":    {func(p *impl.Plan) { p.Kids = append(p.Kids[:len(p.Kids):len(p.Kids)], plUnit()) }, ""},
	}
	seen := 0
	for _, p := range goodPlans() {
		for what, field := range fields {
			if strings.Contains(field.kinds, fmt.Sprint(p.Kind)) {
				continue
			}
			seen++
			wrong := p
			field.lay(&wrong)
			checkPlanWithin(t, what+" in kind "+fmt.Sprint(p.Kind), wrong, false)
		}
	}
	if seen < 300 {
		t.Errorf("%d show too little", seen)
	}
}

func TestPlansWithSomethingTooFew(t *testing.T) {
	x, u := exVar("x"), plUnit()
	for what, p := range map[string]impl.Plan{
		"PlLeft without Expr": plPair(impl.PlLeft, u, u), "PlFilter without Expr": plFilter(u, impl.Expr{}), "PlExtend without Expr": plExtend(u, "v", impl.Expr{}), "PlExtend without Var": plExtend(u, "", x), "PlExtend without both": plExtend(u, "", impl.Expr{}), "PlRows without Var": plRows("", name("a")), "PlRows without both": plRows(""),
		"no S": plNest(u, 0, impl.Pat{P: item("?p"), O: item("?o")}), "no P": plNest(u, 0, impl.Pat{S: item("?p"), O: item("?o")}), "no O": plNest(u, 0, impl.Pat{S: item("?p"), P: item("?o")}), "no Pat": plNest(u, 0, impl.Pat{}),
		"PlLeft's Expr is none": plLeft(u, u, ex(impl.ExNot)), "PlFilter's Expr is none": plFilter(u, ex(impl.ExNot, impl.Expr{})), "PlExtend's Expr is none": plExtend(u, "v", exOp(8, x, x)),
	} {
		checkPlanWithin(t, what, p, false)
	}
	for _, kind := range []int{-1, 9, 10, 100, math.MaxInt, math.MinInt} {
		for _, p := range append(goodPlans(), impl.Plan{}) {
			p.Kind = kind
			checkPlanWithin(t, fmt.Sprint("kind ", kind), p, false)
		}
	}
}

func TestKidsOfPlans(t *testing.T) {
	for kind, want := range []int{1, 2, 2, 2, 2, 1, 1, 0, 0} {
		for kids := range 6 {
			p := impl.Plan{Kind: kind}
			switch kind {
			case impl.PlNest:
				p.Pat = pattern("?a", "?b", "?c")
			case impl.PlLeft, impl.PlFilter:
				p.Expr = exVar("e")
			case impl.PlExtend:
				p.Expr, p.Var = exVar("e"), []byte("v")
			case impl.PlRows:
				p.Var = []byte("v")
			}
			for range kids {
				p.Kids = append(p.Kids, plUnit())
			}
			checkPlanWithin(t, fmt.Sprint(kids, " Kids of kind ", kind), p, kids == want)
			for i := range p.Kids {
				wrong := p
				wrong.Kids = append([]impl.Plan{}, p.Kids...)
				wrong.Kids[i] = impl.Plan{Kind: impl.PlRows}
				checkPlanWithin(t, fmt.Sprint("Kid ", i, " of kind ", kind, " is none"), wrong, false)
			}
		}
	}
}

func TestPartsOfPlansThatAreNone(t *testing.T) {
	u := plUnit()
	for _, v := range badVars() {
		checkPlanWithin(t, fmt.Sprintf("%q told", v), plExtend(u, v, exVar("x")), false)
		checkPlanWithin(t, fmt.Sprintf("%q of rows", v), plRows(v, name("a")), false)
		checkPlanWithin(t, fmt.Sprintf("%q asked", v), plFilter(u, exVar(v)), false)
		for i, p := range []impl.Pat{{S: impl.Item{Var: []byte(v)}, P: item("?p"), O: item("?o")}, {S: item("?p"), P: impl.Item{Var: []byte(v)}, O: item("?o")}, {S: item("?p"), P: item("?o"), O: impl.Item{Var: []byte(v)}}} {
			checkPlanWithin(t, fmt.Sprintf("%q as item %d", v, i), plNest(u, i, p), false)
		}
	}
	for _, x := range append(goodTerms(), badTerms()...) {
		isName := impl.TermOk(x) && x.Kind == impl.TmName
		isBlank := impl.TermOk(x) && x.Kind == impl.TmBlank
		checkPlanWithin(t, "as S: "+tell(x), plNest(u, 5, pattern(x, "?p", "?o")), isName || isBlank)
		checkPlanWithin(t, "as P: "+tell(x), plNest(u, 4, pattern("?s", x, "?o")), isName)
		checkPlanWithin(t, "as O: "+tell(x), plNest(u, 3, pattern("?s", "?p", x)), impl.TermOk(x))
		checkPlanWithin(t, "of rows: "+tell(x), plRows("v", name("a"), x), impl.TermOk(x))
		checkPlanWithin(t, "asked: "+tell(x), plFilter(u, exTerm(x)), impl.TermOk(x))
		if !isZero(x) {
			checkPlanWithin(t, "both as O: "+tell(x), plNest(u, 0, impl.Pat{S: item("?s"), P: item("?p"), O: impl.Item{Var: []byte("o"), Term: x}}), false)
		}
	}
	var terms []impl.Term
	for n := range 12 {
		checkPlanWithin(t, fmt.Sprint(n, " Terms"), plRows("v", terms...), n <= 8)
		terms = append(terms, number(n, 0))
	}
}

// manyPlans has so many plans, and is not deep.
func manyPlans(kind int, count int) impl.Plan {
	if count == 1 {
		return plUnit()
	}
	if count == 2 {
		return plNest(plUnit(), 0, pattern("?a", "?a", "?a"))
	}
	half := (count - 1) / 2
	return plPair(kind, manyPlans(kind, half), manyPlans(kind, count-1-half))
}

func TestManyPartsOfPlans(t *testing.T) {
	for parts := 1434; parts <= 1446; parts++ {
		want := parts <= 1440
		for _, kind := range []int{impl.PlHash, impl.PlUnion, impl.PlMinus} {
			checkPlanOk(t, fmt.Sprint(parts, " plans of kind ", kind), manyPlans(kind, parts), want)
		}
		rest := manyPlans(impl.PlHash, 300)
		for what, p := range map[string]impl.Plan{
			"asked": plFilter(plUnit(), expression(parts-2)), "told": plExtend(plUnit(), "v", expression(parts-2)), "left": plLeft(plUnit(), plUnit(), expression(parts-3)), "asked, with plans": plFilter(rest, expression(parts-301)), "told, with plans": plExtend(rest, "v", expression(parts-301)), "left, with plans": plLeft(rest, rest, expression(parts-601)),
			"twice": plFilter(plFilter(plUnit(), expression(700)), expression(parts-703)), "apart": plHash(plFilter(plUnit(), expression(700)), plFilter(plUnit(), expression(parts-705))), "values count as one": plFilter(plRows("a", eightTerms()...), expression(parts-2)), "a pattern counts none": plFilter(plNest(plUnit(), 0, pattern("?a", "?a", "?a")), expression(parts-3)),
		} {
			checkPlanOk(t, fmt.Sprint(what, ", ", parts), p, want)
		}
	}
	for _, parts := range []int{1, 2, 3, 479, 480, 481, 482, 1000} { // more than algebras may have
		checkPlanOk(t, fmt.Sprint(parts, " plans"), manyPlans(impl.PlHash, parts), true)
	}
}

func TestHowDeepPlans(t *testing.T) {
	for what, way := range planWays() {
		for leaf, p := range map[string]impl.Plan{"PlUnit": plUnit(), "PlRows": plRows("a")} {
			for deep := 1; deep <= 485; deep++ {
				// Of three parts each, 480 deep are just 1438.
				if deep < 3 || deep > 238 && deep < 243 || deep > 476 {
					checkPlanOk(t, fmt.Sprint(what, " of ", leaf, ", ", deep, " deep"), p, deep <= 480)
				}
				p = way(p)
			}
		}
	}
	p := plUnit()
	for range 100000 {
		p = plFilter(p, exVar("a"))
	}
	checkPlanOk(t, "very deep", p, false)
}

func TestHowDeepExpressionsOfPlans(t *testing.T) {
	for what, way := range exprWays() {
		for _, leaf := range []impl.Expr{exVar("a"), exBound("b"), exTerm(number(1, 0))} {
			e := leaf
			for deep := 1; deep <= 125; deep++ {
				want := deep <= 120
				say := fmt.Sprint(what, ", ", deep, " deep")
				checkPlanOk(t, say+", asked", plFilter(plUnit(), e), want)
				checkPlanOk(t, say+", told", plExtend(plRows("a"), "v", e), want)
				checkPlanOk(t, say+", left", plLeft(plUnit(), plUnit(), e), want)
				// How deep the plan lies itself plays no part.
				checkPlanOk(t, say+", below", plHash(plUnit(), plExtend(plFilter(plFilter(plUnit(), exVar("a")), e), "v", exVar("a"))), want)
				e = way(e)
			}
		}
	}
}

func TestHowManyVariablesOfPlans(t *testing.T) {
	eight := plUnit()
	for _, v := range []string{"a", "b", "c", "d", "e", "f", "g", "h"} {
		eight = plNest(eight, 0, pattern("?"+v, name("p"), name("o")))
	}
	checkPlanOk(t, "8", eight, true)
	u, one := plUnit(), exTerm(number(1, 0))
	for what, last := range map[string]func(string) impl.Plan{
		"as S": func(v string) impl.Plan { return plNest(u, 0, pattern("?"+v, name("p"), name("o"))) }, "as P": func(v string) impl.Plan { return plNest(u, 0, pattern("?a", "?"+v, "?b")) }, "as O": func(v string) impl.Plan { return plNest(u, 0, pattern("?a", "?b", "?"+v)) },
		"asked": func(v string) impl.Plan { return plFilter(u, exVar(v)) }, "bound": func(v string) impl.Plan { return plFilter(u, ex(impl.ExNot, exBound(v))) }, "told": func(v string) impl.Plan { return plExtend(u, v, exVar("a")) }, "of told": func(v string) impl.Plan { return plExtend(u, "a", exOp(impl.OpAdd, exVar("a"), exVar(v))) },
		"of rows": func(v string) impl.Plan { return plRows(v) }, "left": func(v string) impl.Plan { return plLeft(u, u, ex(impl.ExIf, exVar("a"), exVar("b"), exVar(v))) }, "taken away": func(v string) impl.Plan { return plPair(impl.PlMinus, u, plRows(v)) },
		"far below": func(v string) impl.Plan {
			return plHash(u, plPair(impl.PlUnion, plFilter(plNest(plRows(v), 1, pattern("?a", "?a", "?b")), one), u))
		},
	} {
		for _, kind := range []int{impl.PlHash, impl.PlUnion, impl.PlMinus} {
			checkPlanOk(t, "8, "+what, plPair(kind, eight, last("c")), true)
			checkPlanOk(t, "8, ahead "+what, plPair(kind, last("h"), eight), true)
			checkPlanOk(t, "9, "+what, plPair(kind, eight, last("i")), false)
			checkPlanOk(t, "9, ahead "+what, plPair(kind, last("i"), eight), false)
		}
	}
	checkPlanOk(t, "9 by names", plFilter(eight, exTerm(name("i"))), true)
}

func TestPlansThatHoldThemselves(t *testing.T) {
	for kind := impl.PlNest; kind <= impl.PlExtend; kind++ {
		own := impl.Plan{Kind: kind}
		switch kind {
		case impl.PlNest:
			own.Pat = pattern("?a", "?b", "?c")
		case impl.PlLeft, impl.PlFilter:
			own.Expr = exVar("a")
		case impl.PlExtend:
			own.Expr, own.Var = exVar("a"), []byte("v")
		}
		one, both := []impl.Plan{own}, []impl.Plan{own, own}
		kids := both
		if kind == impl.PlNest || kind >= impl.PlFilter {
			kids = one
		}
		for i := range kids {
			kids[i].Kids = kids
		}
		checkPlanOk(t, fmt.Sprint("kind ", kind), kids[0], false)
		checkPlanOk(t, fmt.Sprint("kind ", kind, ", below"), plFilter(plHash(plUnit(), kids[0]), exVar("a")), false)
		if len(kids) == 2 {
			kids[0] = plUnit()
			checkPlanOk(t, fmt.Sprint("the second of kind ", kind), kids[1], false)
		}
	}
	kids := make([]impl.Expr, 2)
	for i := range kids {
		kids[i] = impl.Expr{Kind: impl.ExOp, Kids: kids}
	}
	checkPlanOk(t, "expressions", plFilter(plUnit(), kids[0]), false)
	checkPlanOk(t, "expressions that are too many", impl.Plan{Kind: impl.PlUnit, Expr: kids[0]}, false)
	great, wide := plUnit(), make([]impl.Plan, 100000)
	for range 200 {
		great = plHash(great, great)
	}
	checkPlanOk(t, "more than can be gone through", great, false)
	checkPlanOk(t, "wide", impl.Plan{Kind: impl.PlHash, Kids: wide}, false)
}

// plan makes plans of which many may be, and many miss it by a little.
func (m maker) plan(deep int) impl.Plan {
	p := impl.Plan{Kind: pick(m.Rand, 0, 0, 1, 2, 3, 4, 5, 6, 7, 8)}
	if deep <= 0 {
		p.Kind = pick(m.Rand, 7, 8)
	}
	switch p.Kind {
	case impl.PlNest:
		p.Order, p.Pat = m.Intn(6), impl.Pat{S: m.item(0, 1), P: m.item(0), O: m.item(0, 1, 2, 3)}
	case impl.PlLeft, impl.PlFilter:
		p.Expr = m.expr(m.Intn(4))
	case impl.PlExtend:
		p.Expr, p.Var = m.expr(m.Intn(4)), m.variable()
	case impl.PlRows:
		p.Var = m.variable()
		for range m.Intn(4) {
			p.Terms = append(p.Terms, m.term())
		}
	}
	for range []int{1, 2, 2, 2, 2, 1, 1, 0, 0}[p.Kind] {
		p.Kids = append(p.Kids, m.plan(deep-1))
	}
	if m.goesWild() {
		pick(m.Rand, func() { p.Kind = m.Intn(11) - 1 }, func() { p.Var = m.variable() }, func() { p.Var = nil }, func() { p.Expr = m.expr(1) }, func() { p.Expr = impl.Expr{} }, func() { p.Kids = append(p.Kids, plUnit()) }, func() { p.Kids = nil },
			func() { p.Terms = append(p.Terms, goodTerms()[:6]...) }, func() { p.Pat = pattern("?a", "?a", "?a") }, func() { p.Pat.P = impl.Item{} }, func() { p.Expr.Op = m.Intn(9) }, func() { p.Order = m.Intn(8) - 1 })()
	}
	return p
}

func TestPlanOkAsMeant(t *testing.T) {
	source := rand.New(rand.NewSource(87))
	var may, mayNot, great int
	for range 8000 {
		p := maker{source, someNames(source), pick(source, 0, 5, 12, 40)}.plan(source.Intn(11))
		want := isMeantPlan(p)
		if impl.PlanOk(p) != want {
			t.Fatalf("PlanOk is %v: %v", !want, p)
		}
		if want {
			may++
		} else {
			mayNot++
		}
		if walkPlan(p).nodes > 100 {
			great++
		}
	}
	if may < 2000 || mayNot < 2000 || great < 200 {
		t.Errorf("%d that may be, %d that may not and %d great ones show too little", may, mayNot, great)
	}
}
