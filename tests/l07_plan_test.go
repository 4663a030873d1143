package tests

import (
	"fmt"
	"math"
	"math/big"
	"math/rand"
	"reflect"
	"strings"
	"testing"

	"loop.example/g00347/impl"
)

func plUnit() impl.Plan { return impl.Plan{Kind: impl.PlUnit} }

func plNest(of impl.Plan, order int, p impl.Pat) impl.Plan {
	return impl.Plan{Kind: impl.PlNest, Order: order, Pat: p, Kids: []impl.Plan{of}}
}

func plPair(kind int, a impl.Plan, b impl.Plan) impl.Plan {
	return impl.Plan{Kind: kind, Kids: []impl.Plan{a, b}}
}

func plHash(a impl.Plan, b impl.Plan) impl.Plan { return plPair(impl.PlHash, a, b) }

func plLeft(a impl.Plan, b impl.Plan, e impl.Expr) impl.Plan {
	return impl.Plan{Kind: impl.PlLeft, Expr: e, Kids: []impl.Plan{a, b}}
}

func plFilter(of impl.Plan, e impl.Expr) impl.Plan {
	return impl.Plan{Kind: impl.PlFilter, Expr: e, Kids: []impl.Plan{of}}
}

func plExtend(of impl.Plan, v string, e impl.Expr) impl.Plan {
	return impl.Plan{Kind: impl.PlExtend, Var: []byte(v), Expr: e, Kids: []impl.Plan{of}}
}

func plRows(v string, terms ...impl.Term) impl.Plan {
	return impl.Plan{Kind: impl.PlRows, Var: []byte(v), Terms: terms}
}

// tellPlan writes PlUnit as 1, and PlNest as its order and pattern, as tellAlg does, behind its Kid.
func tellPlan(p impl.Plan) string {
	var parts []string
	for _, kid := range p.Kids {
		parts = append(parts, tellPlan(kid))
	}
	switch p.Kind {
	case 0:
		return parts[0] + " " + []string{"spo", "sop", "pso", "pos", "osp", "ops"}[p.Order] + tellAlg(alBgp(p.Pat))
	case 2, 5:
		parts = append(parts, strings.Join(exprTokens(p.Expr), " "))
	case 6:
		parts = append(parts, "?"+string(p.Var), strings.Join(exprTokens(p.Expr), " "))
	case 7:
		return tellAlg(alRows(string(p.Var), p.Terms...))
	case 8:
		return "1"
	}
	return []string{"", "hash", "left", "union", "minus", "filter", "extend"}[p.Kind] + "(" + strings.Join(parts, ", ") + ")"
}

func checkPlanOf(t *testing.T, a impl.Alg, choices []int, want string) {
	t.Helper()
	p, ok := impl.PlanOf(a, choices)
	if !ok || !impl.PlanOk(p) {
		t.Fatalf("%s by %v: %v, PlanOk %v", tellAlg(a), choices, ok, impl.PlanOk(p))
	}
	if got := tellPlan(p); got != want {
		t.Errorf("%s by %v: %s, want %s", tellAlg(a), choices, got, want)
	}
}

// byChoices has a plan for each list of choices.
type byChoices []struct {
	choices []int
	want    string
}

func checkPlansOf(t *testing.T, a impl.Alg, all byChoices) {
	t.Helper()
	for _, c := range all {
		checkPlanOf(t, a, c.choices, c.want)
	}
}

func isZeroPlan(p impl.Plan) bool { return told(p) == told(impl.Plan{}) }

// hasNoPlan wants false and nothing beside it.
func hasNoPlan(t *testing.T, what string, a impl.Alg, choices []int) {
	t.Helper()
	if p, ok := impl.PlanOf(a, choices); ok || !isZeroPlan(p) {
		t.Errorf("%s: %v, %v", what, ok, p)
	}
}

// ones are so many choices of 1.
func ones(count int) []int {
	var list []int
	for range count {
		list = append(list, 1)
	}
	return list
}

func TestPlanConstants(t *testing.T) {
	got := []int{impl.PlNest, impl.PlHash, impl.PlLeft, impl.PlUnion, impl.PlMinus, impl.PlFilter, impl.PlExtend, impl.PlRows, impl.PlUnit}
	for want := range got {
		if got[want] != want {
			t.Errorf("constant %d: %d", want, got[want])
		}
	}
}

func TestPlansOfNoPatterns(t *testing.T) {
	checkPlansOf(t, alBgp(), byChoices{{nil, "1"}, {[]int{}, "1"}, {[]int{1, 1, 1}, "1"}, {[]int{-5}, "1"}})
	// They take no choice: the first one turns the join round.
	checkPlansOf(t, alJoin(alBgp(), alRows("v")), byChoices{{nil, "hash(1, rows(?v, ))"}, {[]int{1}, "hash(rows(?v, ), 1)"}, {[]int{2}, "hash(1, rows(?v, ))"}, {[]int{0, 1}, "hash(1, rows(?v, ))"}})
}

func TestPlansOfOnePattern(t *testing.T) {
	a := alHas("a")
	orders := []string{"spo", "sop", "pso", "pos", "osp", "ops"}
	checkPlanOf(t, a, nil, "1 spo[a]")
	for order, word := range orders {
		// The pattern itself takes no choice, as there is but one.
		checkPlansOf(t, a, byChoices{
			{[]int{order}, "1 " + word + "[a]"}, {[]int{order, 0}, "1 " + word + "[a]"}, {[]int{order, 1}, "hash(1, 1 " + word + "[a])"}, {[]int{order, 0, 1}, "1 " + word + "[a]"}, {[]int{order, 1, 5, 5, 5}, "hash(1, 1 " + word + "[a])"},
			{[]int{order + 6, 2}, "1 " + word + "[a]"}, {[]int{order - 6, 3}, "hash(1, 1 " + word + "[a])"}, {[]int{order + 6000, -1}, "hash(1, 1 " + word + "[a])"}, {[]int{order - 6000, -2}, "1 " + word + "[a]"},
		})
	}
	checkPlansOf(t, a, byChoices{
		{[]int{-1}, "1 ops[a]"}, {[]int{-7}, "1 ops[a]"}, {[]int{-5}, "1 sop[a]"}, {[]int{math.MaxInt}, "1 sop[a]"}, {[]int{math.MinInt}, "1 osp[a]"}, {[]int{math.MinInt + 1}, "1 ops[a]"}, {[]int{1 << 62}, "1 osp[a]"},
		{[]int{0, math.MaxInt}, "hash(1, 1 spo[a])"}, {[]int{0, math.MinInt}, "1 spo[a]"}, {[]int{0, math.MinInt + 1}, "hash(1, 1 spo[a])"}, {[]int{0, -3}, "hash(1, 1 spo[a])"},
	})
}

func TestPlansOfSeveralPatterns(t *testing.T) {
	checkPlansOf(t, alHas("a", "b"), byChoices{
		{nil, "1 spo[a] spo[b]"}, {[]int{1}, "1 spo[b] spo[a]"}, {[]int{-1}, "1 spo[b] spo[a]"}, {[]int{2}, "1 spo[a] spo[b]"}, {[]int{0, 3}, "1 pos[a] spo[b]"}, {[]int{1, 3}, "1 pos[b] spo[a]"},
		{[]int{1, 2, 1}, "hash(1, 1 pso[b]) spo[a]"}, {[]int{1, 2, 1, 4}, "hash(1, 1 pso[b]) osp[a]"}, {[]int{1, 2, 1, 4, 1}, "hash(hash(1, 1 pso[b]), 1 osp[a])"}, {[]int{1, 2, 0, 4, 1}, "hash(1 pso[b], 1 osp[a])"}, {[]int{0, 5, 0, 1, 0}, "1 ops[a] sop[b]"},
		{[]int{0, 5, 0, 1, 0, 7, 7}, "1 ops[a] sop[b]"}, {[]int{3, 13, 3, 13, 3}, "hash(hash(1, 1 sop[b]), 1 sop[a])"},
	})
	checkPlansOf(t, alHas("a", "b", "c"), byChoices{
		{nil, "1 spo[a] spo[b] spo[c]"}, {[]int{1}, "1 spo[b] spo[a] spo[c]"}, {[]int{2}, "1 spo[c] spo[a] spo[b]"}, {[]int{3}, "1 spo[a] spo[b] spo[c]"}, {[]int{-1}, "1 spo[c] spo[a] spo[b]"}, {[]int{-2}, "1 spo[b] spo[a] spo[c]"}, {[]int{-3}, "1 spo[a] spo[b] spo[c]"},
		{[]int{0, 0, 0, 1}, "1 spo[a] spo[c] spo[b]"}, {[]int{1, 0, 0, 1}, "1 spo[b] spo[c] spo[a]"}, {[]int{2, 0, 0, 1}, "1 spo[c] spo[b] spo[a]"}, {[]int{2, 0, 0, 0}, "1 spo[c] spo[a] spo[b]"},
		{[]int{2, 1, 0, 1, 2, 1, 3, 1}, "hash(hash(1 sop[c], 1 pso[b]), 1 pos[a])"}, {[]int{2, 1, 1, 1, 2, 0, 3, 0}, "hash(1, 1 sop[c]) pso[b] pos[a]"}, {[]int{2, 1, 0, 1, 2, 1, 3}, "hash(1 sop[c], 1 pso[b]) pos[a]"}, {[]int{2, 1, 0, 1, 2, 1}, "hash(1 sop[c], 1 pso[b]) spo[a]"},
		{[]int{math.MaxInt}, "1 spo[b] spo[a] spo[c]"}, {[]int{math.MinInt}, "1 spo[b] spo[a] spo[c]"},
	})
	// Patterns that are alike stay as many as they are.
	checkPlanOf(t, alHas("a", "a"), []int{1, 4}, "1 osp[a] spo[a]")
	checkPlanOf(t, alBgp(pattern(name("s"), "?x", "?y"), pattern("?y", name("p"), text("o"))), []int{1, 5, 1, 1, 1}, `hash(hash(1, 1 ops[y <p> "o"]), 1 sop[<s> ?x ?y])`)
	// How many are left decides what a choice comes to.
	list := alHas("a", "b", "c", "d", "e", "f", "g")
	checkPlanOf(t, list, []int{6, 0, 0, 6, 0, 0, 6, 0, 0, 6, 0, 0, 6, 0, 0, 6}, "1 spo[g] spo[a] spo[c] spo[e] spo[b] spo[d] spo[f]")
	checkPlanOf(t, list, []int{-1, 1, 0, -1, 2, 0, -1, 3, 0, -1, 4, 0, -1, 5, 0, -1, 0, 0, 1}, "1 sop[g] pso[f] pos[e] osp[d] ops[c] spo[b] sop[a]")
}

func TestPlansOfTheLike(t *testing.T) {
	a, b, e := alHas("a"), alHas("b"), exOp(impl.OpLess, exVar("a"), exVar("b"))
	// The first Kid's choices come first, then the second one's.
	all := []int{1, 1, 2, 0}
	const first, second = "hash(1, 1 sop[a])", "1 pso[b]"
	checkPlansOf(t, alLeft(a, b, e), byChoices{{nil, "left(1 spo[a], 1 spo[b], ( ?a < ?b ))"}, {all, "left(" + first + ", " + second + ", ( ?a < ?b ))"}, {append(all, 1), "left(" + first + ", " + second + ", ( ?a < ?b ))"}, {all[:1], "left(1 sop[a], 1 spo[b], ( ?a < ?b ))"}, {all[:2], "left(" + first + ", 1 spo[b], ( ?a < ?b ))"}})
	checkPlansOf(t, alPair(impl.AlUnion, a, b), byChoices{{nil, "union(1 spo[a], 1 spo[b])"}, {all, "union(" + first + ", " + second + ")"}, {append(all, 1), "union(" + first + ", " + second + ")"}})
	checkPlansOf(t, alPair(impl.AlMinus, a, b), byChoices{{nil, "minus(1 spo[a], 1 spo[b])"}, {all, "minus(" + first + ", " + second + ")"}, {append(all, 1), "minus(" + first + ", " + second + ")"}})
	checkPlansOf(t, alExtend(a, "v", e), byChoices{{nil, "extend(1 spo[a], ?v, ( ?a < ?b ))"}, {all, "extend(" + first + ", ?v, ( ?a < ?b ))"}, {[]int{5}, "extend(1 ops[a], ?v, ( ?a < ?b ))"}})
	checkPlansOf(t, alRows("v", number(1, 0), text("x")), byChoices{{nil, `rows(?v, 1 "x")`}, {all, `rows(?v, 1 "x")`}})
	checkPlansOf(t, alJoin(a, b), byChoices{
		{nil, "hash(1 spo[a], 1 spo[b])"}, {all, "hash(" + first + ", " + second + ")"}, {append(all, 0), "hash(" + first + ", " + second + ")"}, {append(all, 1), "hash(" + second + ", " + first + ")"}, {append(all, -1), "hash(" + second + ", " + first + ")"}, {append(all, 2), "hash(" + first + ", " + second + ")"}, {append(all, 3, 1), "hash(" + second + ", " + first + ")"},
		{append(all, math.MinInt), "hash(" + first + ", " + second + ")"}, {all[:3], "hash(" + first + ", 1 pso[b])"},
	})
	// A join's own choice comes behind those of all that lies in it.
	inner := alJoin(alRows("a"), alRows("b"))
	checkPlansOf(t, alJoin(inner, alRows("c")), byChoices{{[]int{1}, "hash(hash(rows(?b, ), rows(?a, )), rows(?c, ))"}, {[]int{0, 1}, "hash(rows(?c, ), hash(rows(?a, ), rows(?b, )))"}, {[]int{1, 1}, "hash(rows(?c, ), hash(rows(?b, ), rows(?a, )))"}})
	checkPlansOf(t, alJoin(alRows("c"), inner), byChoices{{[]int{1}, "hash(rows(?c, ), hash(rows(?b, ), rows(?a, )))"}, {[]int{0, 1}, "hash(hash(rows(?a, ), rows(?b, )), rows(?c, ))"}})
	// Others are never turned round.
	checkPlansOf(t, alPair(impl.AlMinus, inner, inner), byChoices{{[]int{0, 1, 1, 1}, "minus(hash(rows(?a, ), rows(?b, )), hash(rows(?b, ), rows(?a, )))"}})
}

func TestPlansOfWhatIsAskedLate(t *testing.T) {
	x := exVar("a")
	for kind := impl.AlJoin; kind <= impl.AlMinus; kind++ {
		a := alPair(kind, alHas("a"), alHas("b"))
		want := []string{"", "hash(1 ops[a], 1 spo[b])", "left(1 ops[a], 1 spo[b], 1)", "union(1 ops[a], 1 spo[b])", "minus(1 ops[a], 1 spo[b])"}[kind]
		if kind == impl.AlLeft {
			a.Expr = exTerm(number(1, 0))
		}
		// The choice of how early comes ahead of all that lies within.
		checkPlansOf(t, alFilter(a, x), byChoices{{[]int{0, 5}, "filter(" + want + ", ?a)"}, {[]int{2, 5}, "filter(" + want + ", ?a)"}, {[]int{-2, 5}, "filter(" + want + ", ?a)"}, {[]int{math.MinInt, 5}, "filter(" + want + ", ?a)"}})
		checkPlansOf(t, alFilter(a, exOp(impl.OpAnd, x, x)), byChoices{{[]int{0, 5}, "filter(" + want + ", ( ?a & ?a ))"}})
	}
	checkPlansOf(t, alFilter(alFilter(alHas("a"), exVar("b")), x), byChoices{{nil, "filter(filter(1 spo[a], ?b), ?a)"}, {[]int{0, 0, 3}, "filter(filter(1 pos[a], ?b), ?a)"}})
}

func TestPlansOfWhatCanNotBeAskedEarly(t *testing.T) {
	x, one := exVar("a"), exTerm(number(1, 0))
	for what, c := range map[string]struct {
		a    impl.Alg
		want string
	}{
		"patterns": {alHas("a", "b"), "1 spo[b] spo[a]"}, "no pattern": {alBgp(), "1"}, "rows": {alRows("a"), "rows(?a, )"}, "told": {alExtend(alHas("a", "b"), "v", one), "extend(1 spo[b] spo[a], ?v, 1)"},
		"asked": {alFilter(alHas("a", "b"), exVar("b")), "filter(1 sop[a] spo[b], ?b)"},
	} {
		for _, e := range []impl.Expr{x, one, exOp(impl.OpOr, x, x), ex(impl.ExNot, exOp(impl.OpAnd, x, x)), exOp(impl.OpSame, x, one)} {
			// It takes its choice nonetheless.
			choices := []int{1, 1}
			if what == "asked" {
				choices = []int{1, 1, 0, 1}
			}
			checkPlanOf(t, alFilter(c.a, e), choices, "filter("+c.want+", "+strings.Join(exprTokens(e), " ")+")")
		}
	}
}

func TestPlansOfWhatIsAskedOfBoth(t *testing.T) {
	a, b, c := exVar("a"), exVar("b"), exVar("c")
	and := func(x impl.Expr, y impl.Expr) impl.Expr { return exOp(impl.OpAnd, x, y) }
	checkPlansOf(t, alFilter(alHas("x"), and(a, b)), byChoices{
		{nil, "filter(1 spo[x], ( ?a & ?b ))"}, {[]int{1}, "filter(filter(1 spo[x], ?b), ?a)"}, {[]int{-1}, "filter(filter(1 spo[x], ?b), ?a)"}, {[]int{1, 0, 0, 5}, "filter(filter(1 ops[x], ?b), ?a)"}, {[]int{1, 1, 1, 5}, "filter(filter(1 ops[x], ?b), ?a)"}, {[]int{1, 0, 1, 5}, "filter(filter(1 ops[x], ?b), ?a)"},
	})
	// Within one another: each that comes of it is asked as if it stood there.
	checkPlansOf(t, alFilter(alHas("x"), and(and(a, b), c)), byChoices{
		{nil, "filter(1 spo[x], ( ( ?a & ?b ) & ?c ))"}, {[]int{1}, "filter(filter(1 spo[x], ?c), ( ?a & ?b ))"}, {[]int{1, 1}, "filter(filter(filter(1 spo[x], ?c), ?b), ?a)"}, {[]int{1, 0, 1, 4}, "filter(filter(1 osp[x], ?c), ( ?a & ?b ))"}, {[]int{1, 1, 0, 0, 1, 4}, "filter(filter(filter(1 osp[x], ?c), ?b), ?a)"},
	})
	checkPlansOf(t, alFilter(alHas("x"), and(a, and(b, c))), byChoices{
		{[]int{1}, "filter(filter(1 spo[x], ( ?b & ?c )), ?a)"}, {[]int{1, 0, 1}, "filter(filter(filter(1 spo[x], ?c), ?b), ?a)"}, {[]int{1, 1, 1}, "filter(filter(filter(1 spo[x], ?c), ?b), ?a)"}, {[]int{1, 1, 0, 4}, "filter(filter(1 osp[x], ( ?b & ?c )), ?a)"}, {[]int{1, 0, 1, 0, 1, 4}, "filter(filter(filter(1 osp[x], ?c), ?b), ?a)"},
	})
	// It comes first, though others would apply, too; what is split then may go further in.
	x, y := alHas("a", "b"), alHas("c")
	checkPlansOf(t, alFilter(alJoin(x, y), and(a, b)), byChoices{
		{[]int{1}, "filter(filter(hash(1 spo[a] spo[b], 1 spo[c]), ?b), ?a)"}, {[]int{1, 1, 1}, "filter(hash(filter(1 spo[a] spo[b], ?b), 1 spo[c]), ?a)"}, {[]int{1, 0, 1}, "filter(hash(filter(1 spo[a] spo[b], ?b), 1 spo[c]), ?a)"}, {[]int{1, 0, 0, 1}, "filter(filter(hash(1 spo[b] spo[a], 1 spo[c]), ?b), ?a)"},
	})
	checkPlansOf(t, alFilter(alPair(impl.AlUnion, alRows("a"), alRows("b")), and(a, b)), byChoices{
		{[]int{1}, "filter(filter(union(rows(?a, ), rows(?b, )), ?b), ?a)"}, {[]int{1, 1, 1}, "filter(union(filter(rows(?a, ), ?b), filter(rows(?b, ), ?b)), ?a)"},
	})
}

func TestPlansOfWhatIsAskedOfTheFirst(t *testing.T) {
	one := exTerm(number(1, 0))
	for kind, word := range map[int]string{impl.AlJoin: "hash", impl.AlLeft: "left", impl.AlMinus: "minus"} {
		with, end := func(a impl.Alg, b impl.Alg) impl.Alg { return alPair(kind, a, b) }, ")"
		if kind == impl.AlLeft {
			with, end = func(a impl.Alg, b impl.Alg) impl.Alg { return alLeft(a, b, one) }, ", 1)"
		}
		a := with(alHas("a", "b"), alHas("c"))
		for s, early := range map[string]bool{
			"?a": true, "?b": true, "( ?a < ?b )": true, "NOT BOUND ?a": true, "5": true, "( 1 = 2 )": true, "COAL { ?a ?b ?a }": true, "NOT ( ?a & ?b )": true,
			"?c": false, "( ?a < ?c )": false, "BOUND ?c": false, "IF ?a ?b ?c": false, "?x": false, "( ?x | ?a )": false, "NOT ( ?a & ?c )": false,
		} {
			want := "filter(" + word + "(1 ops[b] spo[a], 1 spo[c]" + end + ", " + s + ")"
			choices := []int{1, 1, 5}
			if early {
				want = word + "(filter(1 ops[b] spo[a], " + s + "), 1 spo[c]" + end
				choices = []int{1, 0, 1, 5}
			}
			checkPlanOf(t, alFilter(a, exprIn(t, s)), choices, want)
		}
		// It goes further in where it may, and the second Kid's choices come behind.
		deep := with(with(with(alHas("a"), alHas("b")), alHas("c")), alHas("d"))
		inner := word + "(" + word + "(" + word + "(filter(1 spo[a], ?a), 1 spo[b]" + end + ", 1 spo[c]" + end + ", 1 spo[d]" + end
		checkPlanOf(t, alFilter(deep, exVar("a")), ones(3), inner)
		checkPlanOf(t, alFilter(deep, exVar("a")), ones(2), word+"("+word+"(filter("+word+"(1 spo[a], 1 spo[b]"+end+", ?a), 1 spo[c]"+end+", 1 spo[d]"+end)
		checkPlanOf(t, alFilter(with(alHas("a"), alHas("b")), exVar("a")), []int{1, 0, 2, 0, 3}, word+"(filter(1 pso[a], ?a), 1 pos[b]"+end)
		// What is bound by the second one alone is not the first one's.
		checkPlanOf(t, alFilter(with(alBgp(), alHas("a")), exVar("a")), ones(1), "filter("+word+"(1, 1 spo[a]"+end+", ?a)")
	}
	// A join is turned round nonetheless, by the choice behind all others.
	checkPlansOf(t, alFilter(alJoin(alRows("a"), alRows("b")), exVar("a")), byChoices{{[]int{1, 0, 1}, "hash(rows(?b, ), filter(rows(?a, ), ?a))"}, {[]int{1, 1, 1}, "hash(rows(?b, ), filter(rows(?a, ), ?a))"}, {[]int{1, 1, 0}, "hash(filter(rows(?a, ), ?a), rows(?b, ))"}, {[]int{0, 1}, "filter(hash(rows(?b, ), rows(?a, )), ?a)"}})
	checkPlansOf(t, alFilter(alJoin(alRows("a"), alRows("b")), exVar("b")), byChoices{{[]int{1, 1}, "filter(hash(rows(?b, ), rows(?a, )), ?b)"}, {[]int{1}, "filter(hash(rows(?a, ), rows(?b, )), ?b)"}})
}

func TestWhatIsSurelyBound(t *testing.T) {
	one := exTerm(number(1, 0))
	rows, with := alRows("a"), func(kind int, a impl.Alg, b impl.Alg) impl.Alg {
		if kind == impl.AlLeft {
			return alLeft(a, b, exVar("z"))
		}
		return alPair(kind, a, b)
	}
	ab := func(kind int) impl.Alg { return with(kind, alRows("a"), alRows("b")) }
	for _, c := range []struct {
		first impl.Alg
		sure  string
		not   string
	}{
		{alBgp(), "", "a"}, {alBgp(pattern("?a", "?b", "?c")), "a b c", "d"}, {alHas("a", "b"), "a b", "p c"}, {alBgp(pattern(name("a"), name("b"), name("c"))), "", "a b c"}, {rows, "a", "b"}, {alRows("a", name("b")), "a", "b"},
		{ab(impl.AlJoin), "a b", "c"}, {ab(impl.AlLeft), "a", "b z"}, {ab(impl.AlMinus), "a", "b"}, {ab(impl.AlUnion), "", "a b"}, {alFilter(rows, exVar("b")), "a", "b"}, {alExtend(rows, "b", exVar("c")), "a", "b c"}, {alExtend(alBgp(), "a", one), "", "a"},
		{alPair(impl.AlUnion, alHas("a", "b"), alHas("b", "c")), "b", "a c"}, {alPair(impl.AlUnion, alHas("a", "b"), alHas("a", "b")), "a b", "c"}, {alPair(impl.AlUnion, rows, alBgp()), "", "a"}, {alPair(impl.AlUnion, alBgp(), rows), "", "a"},
		// One within another.
		{alJoin(ab(impl.AlUnion), alRows("c")), "c", "a b"}, {alJoin(alRows("c"), ab(impl.AlLeft)), "a c", "b z"}, {alPair(impl.AlUnion, ab(impl.AlJoin), ab(impl.AlLeft)), "a", "b"}, {alPair(impl.AlUnion, ab(impl.AlJoin), with(impl.AlMinus, alRows("b"), rows)), "b", "a"},
		{alLeft(ab(impl.AlJoin), alRows("c"), one), "a b", "c"}, {alPair(impl.AlMinus, alFilter(ab(impl.AlJoin), one), alRows("c")), "a b", "c"}, {alFilter(alExtend(ab(impl.AlJoin), "c", one), exVar("c")), "a b", "c"}, {alJoin(alExtend(alBgp(), "a", one), rows), "a", "b"}, {alJoin(alExtend(alBgp(), "a", one), alRows("b")), "b", "a"},
		{alPair(impl.AlUnion, alExtend(alRows("b"), "a", one), ab(impl.AlJoin)), "b", "a"}, {alLeft(alPair(impl.AlUnion, ab(impl.AlJoin), rows), alRows("b"), one), "a", "b"},
	} {
		for kind := impl.AlJoin; kind <= impl.AlMinus; kind++ {
			if kind == impl.AlUnion {
				continue
			}
			a := with(kind, c.first, alRows("y"))
			for _, v := range append(strings.Fields(c.sure), strings.Fields(c.not)...) {
				isSure := strings.Contains(c.sure, v)
				for _, e := range []impl.Expr{exVar(v), exBound(v), exOp(impl.OpAdd, one, exVar(v))} {
					p, ok := impl.PlanOf(alFilter(a, e), []int{1})
					if !ok || (p.Kind == impl.PlFilter) == isSure {
						t.Errorf("%s of %s: %v, %s", v, tellAlg(a), ok, tellPlan(p))
					}
				}
			}
			// All of them together are sure, all but one are not.
			all, but := one, exVar("n")
			for _, v := range strings.Fields(c.sure) {
				all, but = exOp(impl.OpOr, all, exVar(v)), exOp(impl.OpOr, but, exVar(v))
			}
			early, _ := impl.PlanOf(alFilter(a, all), []int{1})
			late, _ := impl.PlanOf(alFilter(a, but), []int{1})
			if early.Kind == impl.PlFilter || late.Kind != impl.PlFilter {
				t.Errorf("%s: %s, %s", tellAlg(a), tellPlan(early), tellPlan(late))
			}
		}
	}
}

func TestPlansOfWhatIsAskedOfOneOrAnother(t *testing.T) {
	u := func(a impl.Alg, b impl.Alg) impl.Alg { return alPair(impl.AlUnion, a, b) }
	for _, s := range []string{"?a", "?b", "?z", "7", "BOUND ?c", "( ?a < ?b )"} { // whatever it binds
		checkPlansOf(t, alFilter(u(alHas("a"), alHas("b")), exprIn(t, s)), byChoices{
			{[]int{1}, "union(filter(1 spo[a], " + s + "), filter(1 spo[b], " + s + "))"}, {[]int{1, 0, 2, 1, 0, 3}, "union(filter(hash(1, 1 pso[a]), " + s + "), filter(1 pos[b], " + s + "))"}, {[]int{1, 1, 2, 1, 1, 3}, "union(filter(hash(1, 1 pso[a]), " + s + "), filter(1 pos[b], " + s + "))"}, {[]int{1, 0, 2, 1, 0, 3, 0, 1}, "union(filter(hash(1, 1 pso[a]), " + s + "), filter(1 pos[b], " + s + "))"},
		})
	}
	// Of unions within, the choices decide one by one.
	abc, x := u(u(alRows("a"), alRows("b")), alRows("c")), exVar("x")
	checkPlansOf(t, alFilter(abc, x), byChoices{
		{nil, "filter(union(union(rows(?a, ), rows(?b, )), rows(?c, )), ?x)"}, {[]int{1}, "union(filter(union(rows(?a, ), rows(?b, )), ?x), filter(rows(?c, ), ?x))"}, {[]int{1, 1}, "union(union(filter(rows(?a, ), ?x), filter(rows(?b, ), ?x)), filter(rows(?c, ), ?x))"},
	})
	cab := u(alRows("c"), u(alRows("a"), alRows("b")))
	checkPlansOf(t, alFilter(cab, x), byChoices{
		{[]int{1, 1}, "union(filter(rows(?c, ), ?x), filter(union(rows(?a, ), rows(?b, )), ?x))"}, {[]int{1, 0, 1}, "union(filter(rows(?c, ), ?x), union(filter(rows(?a, ), ?x), filter(rows(?b, ), ?x)))"},
	})
	// With others within one another.
	mixed := alJoin(u(alRows("a"), alRows("a")), alRows("b"))
	checkPlansOf(t, alFilter(mixed, exVar("a")), byChoices{
		{[]int{1}, "hash(filter(union(rows(?a, ), rows(?a, )), ?a), rows(?b, ))"}, {[]int{1, 1}, "hash(union(filter(rows(?a, ), ?a), filter(rows(?a, ), ?a)), rows(?b, ))"}, {[]int{1, 1, 0, 0, 1}, "hash(rows(?b, ), union(filter(rows(?a, ), ?a), filter(rows(?a, ), ?a)))"}, {[]int{1, 0, 1}, "hash(rows(?b, ), filter(union(rows(?a, ), rows(?a, )), ?a))"},
	})
	checkPlansOf(t, alFilter(u(mixed, alRows("b")), exVar("a")), byChoices{{[]int{1, 1, 1}, "union(hash(union(filter(rows(?a, ), ?a), filter(rows(?a, ), ?a)), rows(?b, )), filter(rows(?b, ), ?a))"}})
}

func TestPlansOfQueries(t *testing.T) {
	q, _, _ := impl.QueryRead([]byte("ASK { ?x <p> ?y . ?y <p> ?z . OPTIONAL { ?y <q> ?n . FILTER ( ?n < 5 ) } FILTER NOT ( ?x = <c> ) FILTER BOUND ?n }"))
	a, ok := impl.Algebra(q)
	if !ok {
		t.Fatal("no query")
	}
	const two, may = "1 spo[x <p> ?y] spo[y <p> ?z]", "1 spo[y <q> ?n]"
	checkPlansOf(t, a, byChoices{
		{nil, "filter(left(" + two + ", " + may + ", ( ?n < 5 )), ( NOT ( ?x = <c> ) & BOUND ?n ))"}, {[]int{1}, "filter(filter(left(" + two + ", " + may + ", ( ?n < 5 )), BOUND ?n), NOT ( ?x = <c> ))"},
		{[]int{1, 1, 1, 1, 3, 1, 2, 0, 5, 1}, "filter(filter(left(hash(1, 1 pos[y <p> ?z]) pso[x <p> ?y], hash(1, 1 ops[y <q> ?n]), ( ?n < 5 )), BOUND ?n), NOT ( ?x = <c> ))"},
	})
}

func TestHowManyChoices(t *testing.T) {
	for what, a := range map[string]impl.Alg{"no pattern": alBgp(), "patterns": alHas("a", "b"), "joined": alJoin(alHas("a"), alBgp()), "asked": alFilter(alBgp(), exVar("a")), "rows": alRows("v")} {
		for _, n := range []int{0, 1, 299, 300, 301, 302, 1000, 100000} {
			p, ok := impl.PlanOf(a, make([]int, n))
			if ok != (n <= 300) || !ok && !isZeroPlan(p) {
				t.Errorf("%s, %d choices: %v, %v", what, n, ok, p)
			}
		}
	}
	// The last one of 300 counts: the first one is of 99 patterns and turns nothing round.
	first := make([]impl.Pat, 99) // with 98 choices of a pattern, 99 of an order, 99 of both
	for i := range first {
		first[i] = pattern("?a", "?a", "?a")
	}
	a := alJoin(alJoin(alBgp(first...), alHas("b")), alRows("c")) // 2 of a pattern, 1 and 1
	choices := make([]int, 300)
	checkKind := func(want int) {
		t.Helper()
		if p, ok := impl.PlanOf(a, choices); !ok || p.Kids[1].Kind != want {
			t.Errorf("%v, %s, want kind %d", ok, tellPlan(p), want)
		}
	}
	checkKind(impl.PlRows)
	choices[299] = 1
	checkKind(impl.PlHash)
	choices[299], choices[298] = 0, 1
	checkKind(impl.PlRows)
}

func TestPlanOfRefusesAlgebras(t *testing.T) {
	own := []impl.Alg{{Kind: impl.AlFilter, Expr: exVar("a")}}
	own[0].Kids = own
	deep := alBgp()
	for range 100000 {
		deep = alFilter(deep, exVar("a"))
	}
	for i, a := range []impl.Alg{
		{Kind: impl.AlJoin}, {Kind: -1}, {Kind: 8}, {Kind: math.MaxInt}, {Kind: math.MinInt}, {Kind: impl.AlRows}, {Kind: impl.AlFilter, Expr: exVar("a")}, alFilter(alBgp(), impl.Expr{}), alFilter(alBgp(), exOp(impl.OpAnd, exVar("a"), impl.Expr{})), alExtend(alBgp(), "", exVar("a")), alBgp(impl.Pat{}), alRows("a", impl.Term{}),
		alPair(impl.AlLeft, alBgp(), alBgp()), {Var: []byte("a")}, patterns(121), alHas("a", "b", "c", "d", "e", "f", "g", "h", "i"), alFilter(alBgp(), expression(479)), own[0], deep, alFilter(alFilter(alRows(""), exVar("a")), exVar("b")), alRows("v", append(eightTerms(), name("a"))...),
	} {
		for _, choices := range [][]int{nil, {0}, {1, 1, 1}, ones(300), ones(301)} {
			hasNoPlan(t, fmt.Sprint("algebra ", i), a, choices)
			hasNoPlan(t, fmt.Sprint("algebra ", i, " joined"), alJoin(alBgp(), a), choices)
			hasNoPlan(t, fmt.Sprint("algebra ", i, " asked"), alFilter(a, exVar("a")), choices)
		}
	}
}

// unions are so many without patterns, in one, with extra patterns in the last one.
func unions(count int, extra int) impl.Alg {
	list := make([]impl.Alg, count)
	list[count-1] = patterns(extra)
	return balanced(impl.AlUnion, list...)
}

// allAsked is OpAnd of so many.
func allAsked(count int) impl.Expr {
	if count == 1 {
		return exVar("a")
	}
	return exOp(impl.OpAnd, allAsked(count/2), allAsked(count-count/2))
}

func TestPlansThatAreTooGreat(t *testing.T) {
	// Asked early, e of 128 parts stands 11 times: with 11 PlFilter, 11 PlUnit and 10 PlUnion 1440 parts.
	e := ex(impl.ExNot, expression(127))
	for extra, fits := range []bool{true, false, false} {
		a := alFilter(unions(11, extra), e)
		p, ok := impl.PlanOf(a, ones(21))
		if ok != fits || ok && walkPlan(p).nodes != 1440+extra || !ok && !isZeroPlan(p) {
			t.Errorf("%d more: %v, %d parts", extra, ok, walkPlan(p).nodes)
		}
		if p, ok := impl.PlanOf(a, nil); !ok || p.Kind != impl.PlFilter {
			t.Errorf("%d more, asked late: %v", extra, ok)
		}
	}
	hasNoPlan(t, "one part of e more", alFilter(unions(11, 0), ex(impl.ExNot, expression(128))), ones(21))
	hasNoPlan(t, "by more choices", alFilter(unions(11, 1), e), ones(300))
	hasNoPlan(t, "far too great", alFilter(unions(80, 0), ex(impl.ExNot, expression(300))), ones(300))
	hasNoPlan(t, "far too great, split", alFilter(unions(80, 0), exOp(impl.OpAnd, exVar("a"), ex(impl.ExNot, expression(300)))), ones(300))
	// The 19th choice has e stand twice in the last union, not once: 1441 parts, not 1312.
	last := alFilter(alPair(impl.AlUnion, unions(9, 0), unions(2, 1)), e)
	hasNoPlan(t, "by 19 choices", last, ones(19))
	if p, ok := impl.PlanOf(last, ones(18)); !ok || walkPlan(p).nodes != 1312 {
		t.Errorf("by 18 choices: %v, %d parts", ok, walkPlan(p).nodes)
	}
	// The greatest and the deepest algebras have plans by most choices.
	for what, a := range map[string]impl.Alg{
		"patterns": balanced(impl.AlJoin, patterns(120), patterns(120), patterns(120), patterns(113)), "expressions": alFilter(alBgp(), expression(478)), "operations": balanced(impl.AlMinus, make([]impl.Alg, 240)...),
		"split, deep": alFilter(patterns(120), allAsked(179)),
	} {
		for _, choices := range [][]int{nil, ones(100), ones(300), {-1, 5, 3, 2, 1 << 40}} {
			if p, ok := impl.PlanOf(a, choices); !ok || !impl.PlanOk(p) {
				t.Errorf("%s: refused by %d choices", what, len(choices))
			}
		}
	}
	deepest := alFilter(patterns(120), allAsked(179))
	p, ok := impl.PlanOf(deepest, ones(300))
	if want, _ := meantPlan(deepest, ones(300)); !ok || told(p) != told(want) || walkPlan(p).deepPlan <= 240 {
		t.Errorf("%v, %d deep", ok, walkPlan(p).deepPlan)
	}
}

// meantChoice is 0 .. n - 1, and what is left.
func meantChoice(left []int, n int) (int, []int) {
	if n < 2 || len(left) == 0 {
		return 0, left
	}
	return int(new(big.Int).Mod(big.NewInt(int64(left[0])), big.NewInt(int64(n))).Int64()), left[1:]
}

// meantSure has what an algebra surely binds.
func meantSure(a impl.Alg) map[string]bool {
	var kids []map[string]bool
	for _, kid := range a.Kids {
		kids = append(kids, meantSure(kid))
	}
	out := map[string]bool{}
	switch a.Kind {
	case impl.AlBgp:
		for _, p := range a.Pats {
			for _, i := range []impl.Item{p.S, p.P, p.O} {
				out[string(i.Var)] = true
			}
		}
		delete(out, "")
	case impl.AlRows:
		out[string(a.Var)] = true
	case impl.AlUnion:
		for v := range kids[0] {
			if kids[1][v] {
				out[v] = true
			}
		}
	case impl.AlJoin:
		for v := range kids[1] {
			out[v] = true
		}
		fallthrough
	default:
		for v := range kids[0] {
			out[v] = true
		}
	}
	return out
}

// isSure asks for each variable that is written in e.
func isSure(a impl.Alg, e impl.Expr) bool {
	sure := meantSure(a)
	for _, token := range exprTokens(e) {
		if v, isVar := strings.CutPrefix(token, "?"); isVar && !sure[v] {
			return false
		}
	}
	return true
}

// meantPlan is an algebra's plan by the document's words, and the choices that are left.
func meantPlan(a impl.Alg, left []int) (impl.Plan, []int) {
	switch a.Kind {
	case impl.AlBgp:
		return meantPatsPlan(plUnit(), a.Pats, left)
	case impl.AlFilter:
		return meantFilterPlan(a.Expr, a.Kids[0], left)
	case impl.AlRows:
		return plRows(string(a.Var), a.Terms...), left
	}
	var kids []impl.Plan
	for _, kid := range a.Kids {
		var p impl.Plan
		p, left = meantPlan(kid, left)
		kids = append(kids, p)
	}
	switch a.Kind {
	case impl.AlLeft:
		return plLeft(kids[0], kids[1], a.Expr), left
	case impl.AlExtend:
		return plExtend(kids[0], string(a.Var), a.Expr), left
	case impl.AlUnion:
		return plPair(3, kids[0], kids[1]), left
	case impl.AlMinus:
		return plPair(4, kids[0], kids[1]), left
	}
	turn, left := meantChoice(left, 2)
	return plPair(1, kids[turn], kids[1-turn]), left
}

func meantPatsPlan(p impl.Plan, pats []impl.Pat, left []int) (impl.Plan, []int) {
	if len(pats) == 0 {
		return p, left
	}
	at, left := meantChoice(left, len(pats))
	order, left := meantChoice(left, 6)
	both, left := meantChoice(left, 2)
	if both == 1 {
		p = plHash(p, plNest(plUnit(), order, pats[at]))
	} else {
		p = plNest(p, order, pats[at])
	}
	return meantPatsPlan(p, append(append([]impl.Pat{}, pats[:at]...), pats[at+1:]...), left)
}

func meantFilterPlan(e impl.Expr, of impl.Alg, left []int) (impl.Plan, []int) {
	early, left := meantChoice(left, 2)
	if early == 1 && e.Kind == 2 && e.Op == 6 {
		return meantPlan(alFilter(alFilter(of, e.Kids[1]), e.Kids[0]), left)
	}
	isFirst := of.Kind == impl.AlJoin || of.Kind == impl.AlLeft || of.Kind == impl.AlMinus
	if early == 1 && (isFirst && isSure(of.Kids[0], e) || of.Kind == impl.AlUnion) {
		moved := of
		moved.Kids = []impl.Alg{alFilter(of.Kids[0], e), of.Kids[1]}
		if !isFirst {
			moved.Kids[1] = alFilter(of.Kids[1], e)
		}
		return meantPlan(moved, left)
	}
	p, left := meantPlan(of, left)
	return plFilter(p, e), left
}

// choices are so many at most, of which 1 is frequent.
func (m maker) choices(most int) []int {
	var list []int
	for range m.Intn(most + 1) {
		list = append(list, pick(m.Rand, 1, 1, 1, 0, m.Intn(6), m.Intn(6), -m.Intn(100), m.Int(), -m.Int(), math.MinInt, math.MaxInt))
	}
	return list
}

// askedAlg makes algebras in which much is asked.
func (m maker) askedAlg(deep int) impl.Alg {
	a := m.poolAlg(deep)
	for range 1 + m.Intn(3) {
		e := m.poolExpr(m.Intn(3))
		for m.Intn(2) == 0 {
			e = exOp(impl.OpAnd, e, m.poolExpr(m.Intn(2)))
		}
		a = alFilter(a, e)
		if m.Intn(2) == 0 {
			kind := impl.AlJoin + m.Intn(4)
			a = alPair(kind, a, m.poolAlg(deep-1))
			if m.Intn(3) == 0 {
				a.Kids[0], a.Kids[1] = a.Kids[1], a.Kids[0]
			}
			if kind == impl.AlLeft {
				a.Expr = m.poolExpr(1)
			}
		}
	}
	return a
}

func TestPlansAsMeant(t *testing.T) {
	m := poolMaker(81)
	var kinds [9]int
	early, seen := 0, 0
	for range 12000 {
		m.names = pick(m.Rand, []string{"a", "b"}, []string{"a", "b", "c", "d"}, []string{"a", "b", "c", "d", "e", "f", "g"})
		a := pick(m.Rand, m.poolAlg, m.askedAlg)(m.Intn(4))
		if !isMeantAlg(a) {
			continue
		}
		seen++
		choices := m.choices(pick(m.Rand, 0, 5, 20, 100))
		want, _ := meantPlan(a, choices)
		p, ok := impl.PlanOf(a, choices)
		if !ok || told(p) != told(want) {
			t.Fatalf("%s by %v: %v, %s, want %s", tellAlg(a), choices, ok, tellPlan(p), tellPlan(want))
		}
		if !impl.PlanOk(p) || !isMeantPlan(p) {
			t.Fatalf("%s may not be", tellPlan(p))
		}
		late, _ := impl.PlanOf(a, nil)
		if strings.Index(tellPlan(p), "filter") != strings.Index(tellPlan(late), "filter") {
			early++
		}
		kinds[p.Kind]++
	}
	if seen < 10000 || early < 600 {
		t.Errorf("%d with %d asked earlier show too little", seen, early)
	}
	for kind, count := range kinds {
		if count < 50 {
			t.Errorf("%d of kind %d show too little", count, kind)
		}
	}
}

func TestPlansOfManyAlgebrasMayBe(t *testing.T) {
	source := rand.New(rand.NewSource(82))
	refused, seen := 0, 0
	for range 4000 {
		m := maker{source, someNames(source), pick(source, 0, 0, 40)}
		a, choices := m.alg(source.Intn(12)), m.choices(pick(source, 10, 400))
		p, ok := impl.PlanOf(a, choices)
		if may := isMeantAlg(a) && len(choices) <= 300; !may {
			refused++
			if ok || !isZeroPlan(p) {
				t.Fatalf("%v by %d choices: %v, %v", a, len(choices), ok, p)
			}
			continue
		}
		want, _ := meantPlan(a, choices)
		if ok != isMeantPlan(want) || ok && told(p) != told(want) || !ok && !isZeroPlan(p) {
			t.Fatalf("%s by %v: %v, %s", tellAlg(a), choices, ok, tellPlan(p))
		}
		seen++
	}
	if refused < 500 || seen < 1000 {
		t.Errorf("%d and %d show too little", refused, seen)
	}
}

func TestMeaningOfEachKind(t *testing.T) {
	p, q, e := plNest(plUnit(), 0, pattern("?a", name("p"), number(1, 0))), plRows("b", number(2, 0)), exVar("c")
	for _, c := range []struct {
		p    impl.Plan
		want string
	}{
		{plUnit(), "[]"}, {q, "rows(?b, 2)"}, {plRows("b"), "rows(?b, )"}, {p, "join([], [a])"}, {plNest(q, 5, pattern("?x", "?y", "?z")), "join(rows(?b, 2), [x ?y ?z])"}, {plNest(p, 3, pattern("?b", name("p"), number(1, 0))), "join(join([], [a]), [b])"},
		{plHash(p, q), "join(join([], [a]), rows(?b, 2))"}, {plHash(q, p), "join(rows(?b, 2), join([], [a]))"}, {plLeft(p, q, e), "left(join([], [a]), rows(?b, 2), ?c)"}, {plLeft(q, p, e), "left(rows(?b, 2), join([], [a]), ?c)"}, {plPair(impl.PlUnion, q, plUnit()), "union(rows(?b, 2), [])"}, {plPair(impl.PlUnion, plUnit(), q), "union([], rows(?b, 2))"},
		{plPair(impl.PlMinus, q, plUnit()), "minus(rows(?b, 2), [])"}, {plPair(impl.PlMinus, plUnit(), q), "minus([], rows(?b, 2))"}, {plFilter(q, e), "filter(rows(?b, 2), ?c)"}, {plExtend(q, "v", e), "extend(rows(?b, 2), ?v, ?c)"},
		{plFilter(plExtend(plHash(plUnit(), plNest(plFilter(q, e), 2, pattern("?x", "?y", "?z"))), "v", e), e), "filter(extend(join([], join(filter(rows(?b, 2), ?c), [x ?y ?z])), ?v, ?c), ?c)"},
	} {
		for order := range 6 { // which plays no part
			if c.p.Kind == impl.PlNest {
				c.p.Order = order
			}
			if a, ok := impl.Meaning(c.p); !ok || tellAlg(a) != c.want || !isMeantAlg(a) {
				t.Errorf("%s: %v, %s, want %s", tellPlan(c.p), ok, tellAlg(a), c.want)
			}
		}
	}
}

// meantMeaning is a plan's by the document's words.
func meantMeaning(p impl.Plan) impl.Alg {
	var kids []impl.Alg
	for _, kid := range p.Kids {
		kids = append(kids, meantMeaning(kid))
	}
	switch p.Kind {
	case 0:
		return alJoin(kids[0], alBgp(p.Pat))
	case 1:
		return alJoin(kids[0], kids[1])
	case 2:
		return alLeft(kids[0], kids[1], p.Expr)
	case 3:
		return alPair(impl.AlUnion, kids[0], kids[1])
	case 4:
		return alPair(impl.AlMinus, kids[0], kids[1])
	case 5:
		return alFilter(kids[0], p.Expr)
	case 6:
		return alExtend(kids[0], string(p.Var), p.Expr)
	case 7:
		return alRows(string(p.Var), p.Terms...)
	}
	return alBgp()
}

func TestMeaningsAsMeant(t *testing.T) {
	source := rand.New(rand.NewSource(83))
	seen, refused := 0, 0
	for range 8000 {
		p := maker{source, someNames(source), pick(source, 0, 8, 30)}.plan(source.Intn(12))
		a, ok := impl.Meaning(p)
		if !isMeantPlan(p) {
			refused++
			if ok || told(a) != told(impl.Alg{}) {
				t.Fatalf("%v: %v, %v", p, ok, a)
			}
			continue
		}
		seen++
		if !ok || told(a) != told(meantMeaning(p)) {
			t.Fatalf("%s: %v, %s", tellPlan(p), ok, tellAlg(a))
		}
	}
	if seen < 2000 || refused < 2000 {
		t.Errorf("%d and %d show too little", seen, refused)
	}
}

func TestMeaningsThatAreTooGreat(t *testing.T) {
	// A plan may be greater than an algebra, and tells its meaning even so.
	p := plUnit()
	for range 479 {
		p = plNest(p, 3, pattern("?a", "?b", "?c"))
	}
	a, ok := impl.Meaning(p)
	if !ok || told(a) != told(meantMeaning(p)) || impl.AlgOk(a) {
		t.Errorf("%v, AlgOk %v", ok, impl.AlgOk(a))
	}
	if a, ok := impl.Meaning(plNest(p, 3, pattern("?a", "?b", "?c"))); ok || told(a) != told(impl.Alg{}) {
		t.Errorf("too deep: %v, %v", ok, a)
	}
	great := plFilter(plUnit(), exVar("a"))
	great.Expr = expression(1438)
	if a, ok := impl.Meaning(great); !ok || told(a) != told(meantMeaning(great)) || impl.AlgOk(a) {
		t.Errorf("%v, AlgOk %v", ok, impl.AlgOk(a))
	}
}

// isFlat tells of what withSpare makes no more than a little of: the spare room has spare room itself.
func isFlat(a impl.Alg) bool {
	m := walkAlg(a)
	return m.deepAlg <= 5 && m.deep <= 3
}

func TestPlansAreNewMemory(t *testing.T) {
	m := poolMaker(84)
	shared := exOp(impl.OpAnd, exOp(impl.OpLess, exVar("a"), exTerm(text("x"))), ex(impl.ExCoal, exVar("a"), exTerm(name("n"))))
	rows := alRows("a", text("t"), name("n"))
	for _, a := range []impl.Alg{
		alFilter(alPair(impl.AlUnion, rows, alHas("a")), shared.Kids[0]), alFilter(alPair(impl.AlUnion, alPair(impl.AlUnion, rows, rows), rows), shared), alFilter(alJoin(rows, rows), shared), alFilter(alLeft(alHas("a", "a"), alHas("a"), shared), shared), alExtend(alPair(impl.AlMinus, rows, rows), "v", shared), alBgp(pattern(name("s"), "?a", text("o")), pattern("?a", name("p"), "?a")),
	} {
		for _, choices := range [][]int{nil, ones(3), ones(20), {1, 1, 0, 1, 1}} {
			p, ok := impl.PlanOf(a, choices)
			again, _ := impl.PlanOf(a, choices)
			meaning, _ := impl.Meaning(p)
			if !ok {
				t.Fatal(tellAlg(a))
			}
			checkOwnMemory(t, p)
			checkOwnMemory(t, withSpare(reflect.ValueOf(a)).Interface(), p, again, meaning, choices)
		}
	}
	seen := 0
	for range 600 {
		a := m.askedAlg(m.Intn(2))
		if !isFlat(a) {
			continue
		}
		seen++
		a = withSpare(reflect.ValueOf(a)).Interface().(impl.Alg) // its own lists share none
		if p, ok := impl.PlanOf(a, m.choices(40)); ok {
			meaning, _ := impl.Meaning(p)
			checkOwnMemory(t, a, p, meaning)
		}
	}
	if seen < 200 {
		t.Errorf("%d show too little", seen)
	}
	// Plans that share their lists do not mean an algebra that does.
	kin := plFilter(plNest(plRows("a", text("t")), 2, pattern(name("s"), "?a", text("o"))), shared)
	if a, ok := impl.Meaning(plPair(impl.PlUnion, plHash(kin, kin), plExtend(plLeft(kin, kin, shared), "v", shared))); !ok {
		t.Error("no plan")
	} else {
		checkOwnMemory(t, a)
	}
}

func TestPlanArgumentsAreLeftAlone(t *testing.T) {
	m := poolMaker(85)
	seen := 0
	for range 600 {
		type all struct {
			A       impl.Alg
			Choices []int
			P       impl.Plan
		}
		made := all{m.askedAlg(m.Intn(2)), m.choices(40), m.plan(m.Intn(4))}
		if !isFlat(made.A) {
			continue
		}
		seen++
		given := withSpare(reflect.ValueOf(made)).Interface().(all)
		before := wholly(reflect.ValueOf(given))
		p, ok := impl.PlanOf(given.A, given.Choices)
		if want, wantOk := impl.PlanOf(made.A, made.Choices); ok != wantOk || told(p) != told(want) {
			t.Fatalf("%s by %v: what lies behind its lists plays a part", tellAlg(made.A), made.Choices)
		}
		a, ok := impl.Meaning(given.P)
		if want, wantOk := impl.Meaning(made.P); ok != wantOk || told(a) != told(want) || impl.PlanOk(given.P) != impl.PlanOk(made.P) {
			t.Fatalf("%v: what lies behind its lists plays a part", made.P)
		}
		if wholly(reflect.ValueOf(given)) != before {
			t.Fatalf("%s by %v: an argument is not what it was", tellAlg(made.A), made.Choices)
		}
	}
	if seen < 200 {
		t.Errorf("%d show too little", seen)
	}
}

func TestPlansAreTheSameEachTime(t *testing.T) {
	m := poolMaker(86)
	for range 100 {
		a, choices := m.askedAlg(3), m.choices(60)
		first, firstOk := impl.PlanOf(a, choices)
		for range 5 {
			if again, ok := impl.PlanOf(a, choices); ok != firstOk || told(again) != told(first) {
				t.Fatalf("%s by %v: %v, then %v", tellAlg(a), choices, first, again)
			}
		}
	}
}
