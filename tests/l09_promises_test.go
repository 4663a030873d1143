package tests

import (
	"math/rand"
	"reflect"
	"strings"
	"testing"

	"loop.example/g00347/impl"
)

// poolElem makes elements over few terms, so that something is found.
func (m maker) poolElem(deep int) impl.Elem {
	e := impl.Elem{Kind: pick(m.Rand, 0, 0, 0, 0, 1, 1, 2, 2, 3, 4, 4, 5, 6)}
	if deep <= 0 {
		e.Kind = pick(m.Rand, 0, 0, 0, 4, 5, 6)
	}
	switch e.Kind {
	case impl.ElTriple:
		e.Pat = impl.Pat{S: m.poolItem(0, 1), P: m.poolItem(0), O: m.poolItem(0, 1, 2, 3)}
	case impl.ElOptional, impl.ElMinus:
		e.A = m.poolGroup(deep - 1)
	case impl.ElUnion:
		e.A, e.B = m.poolGroup(deep-1), m.poolGroup(deep-1)
	case impl.ElFilter:
		e.Expr = m.poolExpr(m.Intn(3))
	case impl.ElBind:
		e.Expr, e.Var = m.poolExpr(m.Intn(3)), m.variable()
	case impl.ElValues:
		e.Var = m.variable()
		for range m.Intn(5) {
			e.Terms = append(e.Terms, m.poolTerm(0, 1, 2, 3))
		}
	}
	return e
}

func (m maker) poolGroup(deep int) []impl.Elem {
	var list []impl.Elem
	for range m.Intn(4) {
		list = append(list, m.poolElem(deep))
	}
	return list
}

// poolQuery makes queries that may be, of each kind.
func (m maker) poolQuery() impl.Query {
	for {
		q := impl.Query{Body: m.poolGroup(m.Intn(4)), Limit: -1}
		names, ok := meantVars(ask(q.Body...))
		if !ok {
			continue
		}
		if q.Ask = m.Intn(3) == 0; q.Ask {
			return q
		}
		q.Distinct = m.Intn(3) == 0
		q.Limit = pick(m.Rand, -1, -1, -1, -1, -1, 0, 1, 3, 999)
		q.Offset = pick(m.Rand, 0, 0, 0, 0, 0, 0, 1, 2, 999)
		if len(names) > 0 {
			m.selection(&q, names)
		}
		if impl.QueryOk(q) {
			return q
		}
	}
}

// spread writes tokens with one gap or another between them.
func (m maker) spread(tokens []string) string {
	out := ""
	for _, word := range tokens {
		out += pick(m.Rand, "", " ", "\n") + word + pick(m.Rand, " ", "\n")
	}
	return out
}

func graphTokens(g impl.Graph) []string {
	var out []string
	for _, own := range g.List {
		out = append(out, string(impl.Show(own.S)), string(impl.Show(own.P)), string(impl.Show(own.O)), ".")
	}
	return out
}

func askMaker(seed int64) maker {
	return maker{rand.New(rand.NewSource(seed)), []string{"a", "b", "c", "d"}, 0}
}

// few are variables, sometimes two and sometimes all that may be.
func (m maker) few() []string {
	return pick(m.Rand, []string{"a", "b"}, []string{"a", "b", "c", "d"}, []string{"a", "b", "c", "d", "e", "f", "g", "h"})
}

func meantText(x impl.Table) string {
	out := ""
	for _, v := range x.Vars {
		out += "?" + string(v) + " "
	}
	out += "\n"
	for _, s := range x.Rows {
		for _, c := range s.Cells {
			out += tellCell(c) + " "
		}
		out += "\n"
	}
	return out
}

// plainAnswer is the one by the plain meaning; false where that has too many rows.
func plainAnswer(g impl.Graph, q impl.Query) (impl.Answer, bool) {
	rows, fit := meantRows(g, meantAlg(q.Body))
	if !fit {
		return impl.Answer{}, false
	}
	if q.Ask {
		return saying(len(rows) > 0), true
	}
	return telling(meantText(meantTable(q, solsOf(rows, impl.Vars(q))))), true
}

// finished is what Finish tells of solutions.
func finished(t *testing.T, q impl.Query, sols []impl.Sol) impl.Answer {
	t.Helper()
	x, ok := impl.Finish(q, sols)
	if !ok {
		t.Fatalf("%s: no table", queryText(q))
	}
	if q.Ask {
		return saying(len(x.Rows) > 0)
	}
	return telling(string(impl.TableText(x)))
}

// planned is what these choices come to, by the chapters ahead.
func planned(t *testing.T, g impl.Graph, q impl.Query, choices []int) impl.Answer {
	t.Helper()
	a, ok := impl.Algebra(q)
	if !ok {
		t.Fatalf("%s: no algebra", queryText(q))
	}
	p, ok := impl.PlanOf(a, choices)
	if !ok {
		return refused(impl.RunPlan, 0, 0)
	}
	sols, ok := impl.Exec(storeOf(t, g), p, impl.Vars(q))
	if !ok {
		return refused(impl.RunRows, 0, 0)
	}
	return finished(t, q, sols)
}

// wideQuery has two patterns that share nothing, and others that leave few of
// either: by the order that is chosen it has too many rows, or an answer.
func (m maker) wideQuery() impl.Query {
	body := group(asked("?a", "?b", "?c"), asked("?d", "?e", "?f"))
	for range 1 + m.Intn(2) {
		v := pick(m.Rand, "?a", "?d")
		body = append(body, pick(m.Rand, asked(v, m.poolTerm(0), m.poolTerm(0, 1, 2, 3)), asked(m.poolTerm(0, 1), m.poolTerm(0), v)))
	}
	m.Shuffle(len(body), func(i, j int) { body[i], body[j] = body[j], body[i] })
	return m.askedOf(append(body, filter(m.poolExpr(1))))
}

// greatQuery has branches of which much is asked: that early, it has no plan.
func (m maker) greatQuery() impl.Query {
	much := ex(impl.ExCoal, m.poolExpr(1), expression(30+m.Intn(30)))
	return m.askedOf(append(branches(32, 1), filter(m.poolExpr(1)), filter(much)))
}

func (m maker) askedOf(body []impl.Elem) impl.Query {
	q := ask(body...)
	if m.Intn(2) == 0 {
		q.Ask, q.Limit = false, pick(m.Rand, -1, 0, 3)
	}
	return q
}

// anyQuery is each kind of them now and then.
func (m maker) anyQuery() impl.Query {
	return pick(m.Rand, m.poolQuery, m.poolQuery, m.poolQuery, m.wideQuery, m.wideQuery, m.greatQuery)()
}

func TestAnswersAreThoseOfThePlainMeaning(t *testing.T) {
	m := askMaker(120)
	var codes [5]int
	var yes, no, rows, empty, late int
	for range 2500 {
		m.names = m.few()
		g, q := m.poolGraph(), m.anyQuery()
		graph, query := m.spread(graphTokens(g)), m.spread(meantTokens(q))
		if len(graph) > 3000 || len(query) > 2000 {
			continue
		}
		plain, fit := plainAnswer(g, q)
		a, _ := impl.Algebra(q)
		sols, solved := impl.Solve(g, a, impl.Vars(q))
		if solved != fit || fit && !sameAnswer(plain, finished(t, q, sols)) {
			t.Fatalf("%s of %s: Finish of Solve is not what is meant", query, graph)
		}
		for range 4 {
			choices := m.choices(pick(m.Rand, 0, 3, 20, 80))
			if m.Intn(50) == 0 {
				choices = ones(301)
			}
			got := impl.Ask([]byte(graph), []byte(query), choices)
			if want := planned(t, g, q, choices); !sameAnswer(got, want) {
				t.Fatalf("%s of %s by %v: %s, want %s", query, graph, choices, tellAnswer(got), tellAnswer(want))
			}
			codes[got.Code]++
			if got.Code != impl.RunWell {
				continue
			}
			if fit && !sameAnswer(got, plain) {
				t.Fatalf("%s of %s by %v: %s, want %s", query, graph, choices, tellAnswer(got), tellAnswer(plain))
			}
			switch {
			case !fit:
				late++
			case q.Ask && got.Yes:
				yes++
			case q.Ask:
				no++
			case strings.Count(string(got.Text), "\n") > 1:
				rows++
			default:
				empty++
			}
		}
	}
	if codes[impl.RunGraph]+codes[impl.RunQuery] > 0 || codes[impl.RunRows] < 100 || codes[impl.RunPlan] < 100 || yes < 1000 || no < 1000 || rows < 1200 || empty < 1000 || late < 60 {
		t.Errorf("%v: yes %d, no %d, rows %d, empty %d, late %d show too little", codes, yes, no, rows, empty, late)
	}
}

func TestWhateverIsChosenTheAnswerIsTheSame(t *testing.T) {
	m := askMaker(121)
	var pairs, noPlan, noRows, alone int
	for range 1500 {
		m.names = m.few()
		g, q := m.poolGraph(), m.anyQuery()
		graph, query := []byte(graphText(t, g)), []byte(queryText(q))
		var first *impl.Answer
		refusals := 0
		for i := range 8 {
			choices := m.choices(60)
			if i == 0 {
				choices = nil
			} else if i == 1 {
				choices = ones(300)
			}
			got := impl.Ask(graph, query, choices)
			switch {
			case got.Code == impl.RunPlan && sameAnswer(got, refused(impl.RunPlan, 0, 0)):
				refusals++
				noPlan++
			case got.Code == impl.RunRows && sameAnswer(got, refused(impl.RunRows, 0, 0)):
				refusals++
				noRows++
			case got.Code != impl.RunWell || got.Why != 0 || got.At != 0 || q.Ask && len(got.Text) > 0 || !q.Ask && (got.Yes || len(got.Text) == 0):
				t.Fatalf("%s of %s by %v: %s", query, graph, choices, tellAnswer(got))
			case first == nil:
				first = &got
			case !sameAnswer(*first, got):
				t.Fatalf("%s of %s by %v: %s, but by others %s", query, graph, choices, tellAnswer(got), tellAnswer(*first))
			default:
				pairs++
			}
		}
		if first != nil && refusals > 0 {
			alone++
		}
	}
	if pairs < 8000 || noPlan < 100 || noRows < 300 || alone < 200 {
		t.Errorf("%d, %d, %d, %d show too little", pairs, noPlan, noRows, alone)
	}
}

// spoilt has something put in, taken out or changed here and there.
func (m maker) spoilt(s string) string {
	for range m.Intn(3) {
		at := m.Intn(len(s) + 1)
		piece := pick(m.Rand, "", "", ".", "{", "}", "<", ">", "?", "\"", "\\", "0", "a", "A", "-", "_", ":", "<a>", "?b", "ASK", "#", "\x00", "\xff", "  ", "7 ", strings.Repeat(" ", 3001))
		s = s[:at] + piece + s[min(len(s), at+m.Intn(3)):]
	}
	return s
}

func TestEachPairOfTextsIsRefusedOrAnswered(t *testing.T) {
	m := askMaker(122)
	seen := map[[2]int]int{}
	for range 12000 {
		m.names = m.few()
		graph, query := m.spoilt(m.spread(graphTokens(m.poolGraph()))), m.spoilt(m.spread(meantTokens(m.poolQuery())))
		choices := m.choices(20)
		got := impl.Ask([]byte(graph), []byte(query), choices)
		seen[[2]int{got.Code, got.Why}]++
		graphCode, graphAt, _ := meantReading(graph)
		queryCode, queryAt, _ := meantQueryReading(query)
		g, _, _ := impl.GraphRead([]byte(graph))
		q, read, _ := impl.QueryRead([]byte(query))
		var want impl.Answer
		switch {
		case graphCode != impl.ReadWell:
			want = refused(impl.RunGraph, graphCode, graphAt)
		case queryCode != impl.ReadWell:
			want = refused(impl.RunQuery, queryCode, queryAt)
		case read != impl.ReadWell:
			want = refused(impl.RunQuery, impl.ReadLong, 0)
		default:
			want = planned(t, g, q, choices)
		}
		if !sameAnswer(got, want) {
			t.Fatalf("%q of %q by %v: %s, want %s", query, graph, choices, tellAnswer(got), tellAnswer(want))
		}
	}
	for _, key := range [][2]int{{impl.RunWell, 0}, {impl.RunGraph, impl.ReadLong}, {impl.RunGraph, impl.ReadByte}, {impl.RunGraph, impl.ReadForm}, {impl.RunQuery, impl.ReadLong}, {impl.RunQuery, impl.ReadByte}, {impl.RunQuery, impl.ReadForm}} {
		if seen[key] < 100 {
			t.Errorf("%v: %d show too little", key, seen[key])
		}
	}
}

// asking is all that is handed in.
type asking struct {
	Graph   []byte
	Query   []byte
	Choices []int
}

func (a asking) answer() impl.Answer { return impl.Ask(a.Graph, a.Query, a.Choices) }

func TestAskArgumentsAreLeftAlone(t *testing.T) {
	m := askMaker(123)
	var codes [5]int
	for i := range 2000 {
		made := asking{[]byte(m.spread(graphTokens(m.poolGraph()))), []byte(m.spread(meantTokens(m.poolQuery()))), m.choices(30)}
		switch i % 8 {
		case 0:
			made.Graph = append(made.Graph, '#')
		case 1:
			made.Query = append(made.Query, '}')
		case 2:
			made.Choices = ones(301)
		case 3:
			made.Query = []byte("ASK { ?a ?b ?c . ?d ?e ?f . }")
		}
		given := withSpare(reflect.ValueOf(made)).Interface().(asking)
		before := wholly(reflect.ValueOf(given))
		got := given.answer()
		if want := made.answer(); !sameAnswer(got, want) {
			t.Fatalf("%s: %s, want %s: what lies behind its lists plays a part", made.Query, tellAnswer(got), tellAnswer(want))
		}
		if wholly(reflect.ValueOf(given)) != before {
			t.Fatalf("%s: an argument is not what it was", made.Query)
		}
		checkOwnMemory(t, given, got, given.answer())
		codes[got.Code]++
	}
	for code, count := range codes {
		if count < 100 {
			t.Errorf("code %d: %d show too little", code, count)
		}
	}
}

func TestTextsOfAnswersAreNewMemory(t *testing.T) {
	for _, query := range []string{"SELECT * WHERE { ?x <name> ?t . }", "SELECT * WHERE { }", "SELECT ?x WHERE { ?x <height> ?t . }", "SELECT ?p ( COUNT ?s AS ?n ) WHERE { ?s ?p ?o . } GROUP ?p ORDER - ?n LIMIT 2"} {
		given := asking{[]byte(family), []byte(query), []int{1, 2, 3}}
		got, again := given.answer(), given.answer()
		checkOwnMemory(t, given, got, again)
		before := string(again.Text)
		for i := range got.Text {
			got.Text[i] = 'Z'
		}
		if third := given.answer(); before == "" || string(again.Text) != before || string(third.Text) != before || string(given.Graph) != family || string(given.Query) != query {
			t.Errorf("%s: %q, then %q", query, before, third.Text)
		}
		// And what was handed in may be changed afterwards.
		for _, list := range [][]byte{given.Graph, given.Query} {
			for i := range list {
				list[i] = '#'
			}
		}
		given.Choices[0] = 7
		if string(again.Text) != before {
			t.Errorf("%s: %q became %q", query, before, again.Text)
		}
	}
}

func TestAnswersAreTheSameEachTime(t *testing.T) {
	m := askMaker(124)
	var all []asking
	var first []impl.Answer
	for range 300 {
		a := asking{[]byte(m.spoilt(graphText(t, m.poolGraph()))), []byte(m.spoilt(queryText(m.poolQuery()))), m.choices(30)}
		all, first = append(all, a), append(first, a.answer())
	}
	for range 4 {
		for _, i := range m.Perm(len(all)) {
			if again := all[i].answer(); !sameAnswer(again, first[i]) {
				t.Fatalf("%s: %s, then %s", all[i].Query, tellAnswer(first[i]), tellAnswer(again))
			}
		}
	}
}
