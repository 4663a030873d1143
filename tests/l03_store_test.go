package tests

import (
	"fmt"
	"math"
	"math/rand"
	"sort"
	"testing"

	"loop.example/g00347/impl"
)

func row(s int, p int, o int) impl.Row { return impl.Row{S: s, P: p, O: o} }

func storeOf(t *testing.T, g impl.Graph) impl.Store {
	t.Helper()
	s, ok := impl.StoreOf(g)
	if !ok {
		t.Fatalf("no store of %s", tellGraph(g))
	}
	return s
}

func tellStore(s impl.Store) string {
	out := ""
	for _, x := range s.Terms {
		out += tell(x)
	}
	return out + fmt.Sprint(s.Rows)
}

func isZeroStore(s impl.Store) bool { return len(s.Terms) == 0 && len(s.Rows) == 0 }

func copyOfStore(s impl.Store) impl.Store {
	out := impl.Store{Terms: append([]impl.Term{}, s.Terms...)}
	for _, rows := range s.Rows {
		out.Rows = append(out.Rows, append([]impl.Row{}, rows...))
	}
	return out
}

// meantNumbers are a row's numbers in the order of that constant.
func meantNumbers(order int, r impl.Row) [3]int {
	all := []int{r.S, r.P, r.O}
	places := [][3]int{{0, 1, 2}, {0, 2, 1}, {1, 0, 2}, {1, 2, 0}, {2, 0, 1}, {2, 1, 0}}[order]
	return [3]int{all[places[0]], all[places[1]], all[places[2]]}
}

func isAhead(order int, a impl.Row, b impl.Row) bool {
	x, y := meantNumbers(order, a), meantNumbers(order, b)
	for i := range x {
		if x[i] != y[i] {
			return x[i] < y[i]
		}
	}
	return false
}

// meantScan goes through all rows, and puts what it found in order.
func meantScan(s impl.Store, order int, keys []int) []impl.Row {
	var out []impl.Row
	for _, r := range s.Rows[impl.InSPO] {
		numbers, fits := meantNumbers(order, r), true
		for i, key := range keys {
			fits = fits && numbers[i] == key
		}
		if fits {
			out = append(out, r)
		}
	}
	sort.Slice(out, func(i, j int) bool { return isAhead(order, out[i], out[j]) })
	return out
}

func sameRows(a []impl.Row, b []impl.Row) bool { return fmt.Sprint(a) == fmt.Sprint(b) }

func checkScan(t *testing.T, s impl.Store, order int, keys ...int) int {
	t.Helper()
	got, want := impl.Scan(s, order, keys), meantScan(s, order, keys)
	if !sameRows(got, want) {
		t.Fatalf("%s, order %d, keys %v: %v, want %v", tellStore(s), order, keys, got, want)
	}
	return len(got)
}

// isMeantStore asks for each thing by itself: which terms there are, how they
// and the rows ascend, and that all orders tell the same triples.
func isMeantStore(s impl.Store) bool {
	if len(s.Rows) != 6 || len(s.Rows[0]) > 60 {
		return false
	}
	used := map[int]int{}
	for _, r := range s.Rows[0] {
		for _, n := range meantNumbers(0, r) {
			if n < 1 || n > len(s.Terms) {
				return false
			}
			used[n]++
		}
		if !impl.TripleOk(triple(s.Terms[r.S-1], s.Terms[r.P-1], s.Terms[r.O-1])) {
			return false
		}
	}
	for i, x := range s.Terms {
		if !impl.TermOk(x) || used[i+1] == 0 || i > 0 && impl.Compare(s.Terms[i-1], x) != -1 {
			return false
		}
	}
	for order, rows := range s.Rows {
		if !sameRows(rows, meantScan(s, order, nil)) {
			return false
		}
		for i := range rows {
			if i > 0 && !isAhead(order, rows[i-1], rows[i]) {
				return false
			}
		}
	}
	return true
}

// checkNoStore wants of each function the answer at a store that is none.
func checkNoStore(t *testing.T, what string, s impl.Store) {
	t.Helper()
	if impl.StoreOk(s) || isMeantStore(s) {
		t.Errorf("%s: accepted: %s", what, tellStore(s))
	}
	for _, x := range s.Terms {
		if impl.IdOf(s, x) != 0 {
			t.Errorf("%s: a number of %s", what, tell(x))
		}
	}
	for order := -1; order <= 6; order++ {
		for _, keys := range [][]int{nil, {1}, {1, 2}, {1, 4, 2}, {1, 4, 2, 1}} {
			if len(impl.Scan(s, order, keys)) != 0 {
				t.Errorf("%s: rows of order %d, keys %v", what, order, keys)
			}
		}
	}
}

// plainGraph has 5 terms: <a> 1, <b> 2, <c> 3, <p> 4, <q> 5.
func plainGraph() impl.Graph {
	return graph(
		triple(name("a"), name("p"), name("b")),
		triple(name("a"), name("q"), name("b")),
		triple(name("a"), name("q"), name("c")),
		triple(name("b"), name("p"), name("c")),
		triple(name("c"), name("p"), name("a")))
}

// fullGraph has as many unlike terms as a graph can have.
func fullGraph(count int) impl.Graph {
	var list []impl.Triple
	for i := range count {
		list = append(list, triple(name(fmt.Sprintf("a%02d", i)), name(fmt.Sprintf("p%02d", i)), number(count-i, 0)))
	}
	return graph(list...)
}

func TestStoreConstants(t *testing.T) {
	got := []int{impl.InSPO, impl.InSOP, impl.InPSO, impl.InPOS, impl.InOSP, impl.InOPS}
	for i, n := range got {
		if n != i {
			t.Errorf("constant %d: %d", i, n)
		}
	}
}

func TestStoreOfSixOrders(t *testing.T) {
	s := storeOf(t, plainGraph())
	want := map[int][]impl.Row{
		impl.InSPO: {row(1, 4, 2), row(1, 5, 2), row(1, 5, 3), row(2, 4, 3), row(3, 4, 1)},
		impl.InSOP: {row(1, 4, 2), row(1, 5, 2), row(1, 5, 3), row(2, 4, 3), row(3, 4, 1)},
		impl.InPSO: {row(1, 4, 2), row(2, 4, 3), row(3, 4, 1), row(1, 5, 2), row(1, 5, 3)},
		impl.InPOS: {row(3, 4, 1), row(1, 4, 2), row(2, 4, 3), row(1, 5, 2), row(1, 5, 3)},
		impl.InOSP: {row(3, 4, 1), row(1, 4, 2), row(1, 5, 2), row(1, 5, 3), row(2, 4, 3)},
		impl.InOPS: {row(3, 4, 1), row(1, 4, 2), row(1, 5, 2), row(2, 4, 3), row(1, 5, 3)},
	}
	if len(s.Rows) != 6 || !impl.StoreOk(s) {
		t.Fatal(tellStore(s))
	}
	for order, rows := range want {
		if !sameRows(s.Rows[order], rows) {
			t.Errorf("order %d: %v, want %v", order, s.Rows[order], rows)
		}
	}
	for i, x := range []string{"a", "b", "c", "p", "q"} {
		if !same(s.Terms[i], name(x)) || impl.IdOf(s, name(x)) != i+1 {
			t.Errorf("%s: %s, number %d", x, tell(s.Terms[i]), impl.IdOf(s, name(x)))
		}
	}
}

func TestOrdersOfAllSixKindsAreUnlike(t *testing.T) {
	g := ascending([]impl.Triple{
		triple(name("a"), name("c"), name("b")), triple(name("a"), name("b"), name("c")),
		triple(name("b"), name("a"), name("c")), triple(name("b"), name("c"), name("a")),
		triple(name("c"), name("a"), name("b")), triple(name("c"), name("b"), name("a"))})
	s := storeOf(t, g)
	unlike := map[string]int{}
	for order, rows := range s.Rows {
		unlike[fmt.Sprint(rows)]++
		if meantNumbers(order, rows[0]) != [3]int{1, 2, 3} || meantNumbers(order, rows[1]) != [3]int{1, 3, 2} || meantNumbers(order, rows[5]) != [3]int{3, 2, 1} {
			t.Errorf("order %d: %v", order, rows)
		}
	}
	if len(unlike) != 6 {
		t.Errorf("%d unlike orders", len(unlike))
	}
}

// By their bytes as texts, <a> would be behind 5, and 10 ahead of 9.
func TestTermsAscendByCompare(t *testing.T) {
	var list []impl.Triple
	for _, x := range goodTerms() {
		list = append(list, triple(name("a"), name("a0"), x))
	}
	s := storeOf(t, graph(list[:impl.MaxTriples]...))
	for i, x := range goodTerms()[:impl.MaxTriples] {
		if !same(s.Terms[i], x) || impl.IdOf(s, x) != i+1 {
			t.Errorf("%d: %s, want %s; number %d", i, tell(s.Terms[i]), tell(x), impl.IdOf(s, x))
		}
	}
	if len(s.Terms) != impl.MaxTriples {
		t.Errorf("%d terms", len(s.Terms))
	}
}

func TestOneTermInAllPlacesIsHeldOnce(t *testing.T) {
	s := storeOf(t, graph(triple(name("a"), name("a"), name("a"))))
	if len(s.Terms) != 1 || impl.IdOf(s, name("a")) != 1 || !impl.StoreOk(s) {
		t.Fatal(tellStore(s))
	}
	for order := range 6 {
		if checkScan(t, s, order)+checkScan(t, s, order, 1)+checkScan(t, s, order, 1, 1)+checkScan(t, s, order, 1, 1, 1) != 4 {
			t.Errorf("order %d", order)
		}
	}
}

// Some of these share their bytes, others their numbers; all are unlike.
func TestTermsThatLookAlike(t *testing.T) {
	all := []impl.Term{name("a1"), blank(1), text(""), text("-1"), text("1"), text("<a1>"), text("_:1"), text("a1"), number(-1, 0), number(1, 1), number(1, 0), number(11, 1)}
	var list []impl.Triple
	for _, x := range all {
		list = append(list, triple(name("s"), name("p"), x))
	}
	s := storeOf(t, graph(list...))
	if len(s.Terms) != len(all)+2 {
		t.Fatal(tellStore(s))
	}
	unlike := map[int]int{}
	for _, x := range all {
		id := impl.IdOf(s, x)
		unlike[id]++
		if id == 0 || !same(s.Terms[id-1], x) {
			t.Errorf("%s: %d", tell(x), id)
		}
	}
	if len(unlike) != len(all) {
		t.Errorf("%v", unlike)
	}
}

func TestStoreOfNothing(t *testing.T) {
	for _, g := range []impl.Graph{{}, {List: []impl.Triple{}}} {
		s := storeOf(t, g)
		if len(s.Terms) != 0 || len(s.Rows) != 6 || !impl.StoreOk(s) || impl.IdOf(s, name("a")) != 0 {
			t.Fatal(tellStore(s))
		}
		for order := range 6 {
			if len(s.Rows[order])+checkScan(t, s, order)+checkScan(t, s, order, 0)+checkScan(t, s, order, 1)+checkScan(t, s, order, 1, 1, 1) != 0 {
				t.Errorf("order %d", order)
			}
		}
	}
	if !impl.StoreOk(impl.Store{Terms: []impl.Term{}, Rows: [][]impl.Row{nil, {}, nil, {}, nil, {}}}) {
		t.Error("an empty list and nil are the same")
	}
}

func TestStoresOfManyTriples(t *testing.T) {
	for _, g := range []impl.Graph{graph(countedTriples(impl.MaxTriples)...), fullGraph(impl.MaxTriples)} {
		s := storeOf(t, g)
		if !impl.StoreOk(s) || !isMeantStore(s) {
			t.Fatal(tellStore(s))
		}
		for order := range 6 {
			if checkScan(t, s, order) != impl.MaxTriples {
				t.Errorf("order %d", order)
			}
			for n := -1; n <= len(s.Terms)+1; n++ {
				checkScan(t, s, order, n)
			}
		}
	}
	if s := storeOf(t, fullGraph(impl.MaxTriples)); len(s.Terms) != 3*impl.MaxTriples {
		t.Errorf("%d terms", len(s.Terms))
	}
}

func TestGraphsThatHaveNoStore(t *testing.T) {
	a, b := plainGraph().List[0], plainGraph().List[1]
	for i, g := range []impl.Graph{
		graph(a, a), graph(b, a), graph(impl.Triple{}), graph(a, impl.Triple{}),
		graph(triple(number(1, 0), name("p"), name("a"))), graph(triple(name("a"), blank(1), name("a"))), graph(triple(name("a"), name("p"), number(10, 1))), graph(triple(name("a"), name("p"), name("A"))),
		graph(countedTriples(impl.MaxTriples + 1)...), fullGraph(impl.MaxTriples + 1),
	} {
		if s, ok := impl.StoreOf(g); ok || !isZeroStore(s) {
			t.Errorf("graph %d: %s %v", i, tellStore(s), ok)
		}
	}
}

func TestTermsWithoutANumber(t *testing.T) {
	s := storeOf(t, plainGraph())
	for _, x := range append(badTerms(), name("d"), name("aa"), name("pp"), blank(0), blank(1), text("a"), text("p"), text("<a>"), text(""), number(1, 0), number(0, 0)) {
		if got := impl.IdOf(s, x); got != 0 {
			t.Errorf("%s: %d", tell(x), got)
		}
	}
	if impl.IdOf(impl.Store{}, name("a")) != 0 {
		t.Error("no store")
	}
	withText := storeOf(t, graph(triple(name("a"), name("p"), text(""))))
	if impl.IdOf(withText, impl.Term{Kind: impl.TmText, Text: []byte{}}) != 3 || impl.IdOf(withText, impl.Term{}) != 0 {
		t.Error("the empty text is a term, the zero value is none")
	}
}

func TestScan(t *testing.T) {
	s := storeOf(t, plainGraph())
	for _, c := range []struct {
		order int
		keys  []int
		want  []impl.Row
	}{
		{impl.InSPO, nil, s.Rows[0]}, {impl.InOPS, []int{}, s.Rows[5]},
		{impl.InSPO, []int{1}, []impl.Row{row(1, 4, 2), row(1, 5, 2), row(1, 5, 3)}},
		{impl.InSPO, []int{1, 5}, []impl.Row{row(1, 5, 2), row(1, 5, 3)}},
		{impl.InSPO, []int{1, 5, 3}, []impl.Row{row(1, 5, 3)}},
		{impl.InSOP, []int{1, 2}, []impl.Row{row(1, 4, 2), row(1, 5, 2)}},
		{impl.InPSO, []int{4, 2}, []impl.Row{row(2, 4, 3)}},
		{impl.InPOS, []int{4}, []impl.Row{row(3, 4, 1), row(1, 4, 2), row(2, 4, 3)}},
		{impl.InOSP, []int{3}, []impl.Row{row(1, 5, 3), row(2, 4, 3)}},
		{impl.InOPS, []int{3}, []impl.Row{row(2, 4, 3), row(1, 5, 3)}},
		{impl.InOPS, []int{2, 5, 1}, []impl.Row{row(1, 5, 2)}},
		{impl.InSPO, []int{4}, nil}, {impl.InPSO, []int{1}, nil}, {impl.InSPO, []int{1, 4, 3}, nil}, {impl.InSPO, []int{1, 6}, nil}, {impl.InSPO, []int{0, 5}, nil},
	} {
		if got := impl.Scan(s, c.order, c.keys); !sameRows(got, c.want) {
			t.Errorf("order %d, keys %v: %v, want %v", c.order, c.keys, got, c.want)
		}
	}
}

func TestScansThatTellNothing(t *testing.T) {
	s := storeOf(t, plainGraph())
	for _, order := range []int{-1, 6, 7, -6, math.MaxInt, math.MinInt, 1 << 32, 1<<32 + 1} {
		for _, keys := range [][]int{nil, {1}, {1, 4, 2}} {
			if got := impl.Scan(s, order, keys); len(got) != 0 {
				t.Errorf("order %d, keys %v: %v", order, keys, got)
			}
		}
	}
	for order := range 6 {
		numbers := meantNumbers(order, row(1, 4, 2))
		if checkScan(t, s, order, numbers[:]...) != 1 {
			t.Errorf("order %d: three keys", order)
		}
		for _, more := range [][]int{append(numbers[:], 0), append(numbers[:], 1), {0, 0, 0, 0}, {1, 2, 3, 4, 5}, make([]int, 1000)} {
			if got := impl.Scan(s, order, more); len(got) != 0 {
				t.Errorf("order %d, keys %v: %v", order, more, got)
			}
		}
		for _, none := range []int{0, -1, 6, 7, math.MaxInt, math.MinInt, 1<<32 + 1, 1 << 62} {
			for place := range 3 {
				keys := numbers
				keys[place] = none
				for count := place + 1; count <= 3; count++ {
					if checkScan(t, s, order, keys[:count]...) != 0 {
						t.Errorf("order %d, keys %v", order, keys[:count])
					}
				}
			}
		}
	}
}

func TestScanTellsJustTheRowsThatHaveTheseNumbers(t *testing.T) {
	source := rand.New(rand.NewSource(4))
	for range 6 {
		s := storeOf(t, denseGraph(source, 1+source.Intn(impl.MaxTriples), 4))
		for order := range 6 {
			checkScan(t, s, order)
			for x := -1; x <= len(s.Terms)+1; x++ {
				checkScan(t, s, order, x)
				for y := -1; y <= len(s.Terms)+1; y++ {
					checkScan(t, s, order, x, y)
					checkScan(t, s, order, x, y, source.Intn(len(s.Terms)+2))
				}
			}
		}
	}
}

// denseGraph has few terms, which stand in all places, and so many triples that share some.
func denseGraph(source *rand.Rand, most int, terms int) impl.Graph {
	var list []impl.Triple
	pick := func() impl.Term { return name(string(rune('a' + source.Intn(terms)))) }
	for range most {
		o := pick()
		if source.Intn(4) == 0 {
			o = number(source.Intn(3), 0)
		}
		s := pick()
		if source.Intn(4) == 0 {
			s = blank(source.Intn(2))
		}
		list = append(list, triple(s, pick(), o))
	}
	return ascending(list)
}

func TestEachTripleIsFoundByEachOrder(t *testing.T) {
	source := rand.New(rand.NewSource(5))
	for round := range 120 {
		g := denseGraph(source, round%61, 1+source.Intn(6))
		if round%2 == 0 {
			g = randomGraph(source, impl.MaxTriples)
		}
		s := storeOf(t, g)
		if !impl.StoreOk(s) || !isMeantStore(s) {
			t.Fatal(tellStore(s))
		}
		for _, x := range g.List {
			r := row(impl.IdOf(s, x.S), impl.IdOf(s, x.P), impl.IdOf(s, x.O))
			if !sameTriple(triple(s.Terms[r.S-1], s.Terms[r.P-1], s.Terms[r.O-1]), x) {
				t.Fatalf("%v: %s", r, tellStore(s))
			}
			for order := range 6 {
				numbers := meantNumbers(order, r)
				if checkScan(t, s, order, numbers[:]...) != 1 {
					t.Fatalf("order %d: %v in %s", order, r, tellStore(s))
				}
			}
		}
		for order := range 6 {
			if len(s.Rows[order]) != len(g.List) {
				t.Fatalf("order %d: %d rows of %d", order, len(s.Rows[order]), len(g.List))
			}
		}
	}
}

// changedStores are stores of no graph, each by one fault.
func changedStores(t *testing.T) map[string]impl.Store {
	out := map[string]impl.Store{"the zero value": {}}
	change := func(what string, by func(s *impl.Store)) {
		s := copyOfStore(storeOf(t, plainGraph()))
		by(&s)
		out[what] = s
	}
	change("a term too many at the end", func(s *impl.Store) { s.Terms = append(s.Terms, name("z")) })
	change("a number too many", func(s *impl.Store) { s.Terms = append(s.Terms, number(1, 0)) })
	change("a term too many that may not be", func(s *impl.Store) { s.Terms = append(s.Terms, impl.Term{}) })
	change("a term too few", func(s *impl.Store) { s.Terms = s.Terms[:4] })
	change("no terms", func(s *impl.Store) { s.Terms = nil })
	change("a term twice", func(s *impl.Store) { s.Terms[1] = s.Terms[0] })
	change("a term twice at the end", func(s *impl.Store) { s.Terms = append(s.Terms, s.Terms[4]) })
	change("terms out of order", func(s *impl.Store) { s.Terms[0], s.Terms[1] = s.Terms[1], s.Terms[0] })
	change("the last terms out of order", func(s *impl.Store) { s.Terms[3], s.Terms[4] = s.Terms[4], s.Terms[3] })
	change("a term that may not be", func(s *impl.Store) { s.Terms[4] = name("Q") })
	change("a property that is a number", func(s *impl.Store) { s.Terms[4] = number(1, 0) })
	change("a property that is a blank", func(s *impl.Store) { s.Terms[4] = blank(1) })
	change("no orders", func(s *impl.Store) { s.Rows = nil })
	change("one order", func(s *impl.Store) { s.Rows = s.Rows[:1] })
	change("five orders", func(s *impl.Store) { s.Rows = s.Rows[:5] })
	change("seven orders", func(s *impl.Store) { s.Rows = append(s.Rows, s.Rows[5]) })
	change("an empty seventh order", func(s *impl.Store) { s.Rows = append(s.Rows, nil) })
	change("two orders for each other", func(s *impl.Store) { s.Rows[2], s.Rows[3] = s.Rows[3], s.Rows[2] })
	change("no rows", func(s *impl.Store) { s.Rows = make([][]impl.Row, 6) })
	change("the first row gone in each order", func(s *impl.Store) {
		for order := range s.Rows {
			s.Rows[order] = s.Rows[order][1:]
		}
	})
	for order := range 6 {
		in := fmt.Sprintf(" in order %d", order)
		change("a row too many at the end"+in, func(s *impl.Store) { s.Rows[order] = append(s.Rows[order], row(5, 5, 5)) })
		change("a row too many at the beginning"+in, func(s *impl.Store) { s.Rows[order] = append([]impl.Row{row(1, 4, 1)}, s.Rows[order]...) })
		change("a row too few"+in, func(s *impl.Store) { s.Rows[order] = s.Rows[order][:4] })
		change("the first row gone"+in, func(s *impl.Store) { s.Rows[order] = s.Rows[order][1:] })
		change("nothing"+in, func(s *impl.Store) { s.Rows[order] = nil })
		change("a row twice"+in, func(s *impl.Store) { s.Rows[order][2] = s.Rows[order][1] })
		change("a row twice and one too many"+in, func(s *impl.Store) { s.Rows[order] = append(s.Rows[order], s.Rows[order][4]) })
		change("rows out of order"+in, func(s *impl.Store) {
			s.Rows[order][3], s.Rows[order][4] = s.Rows[order][4], s.Rows[order][3]
		})
		change("another row than the others"+in, func(s *impl.Store) { s.Rows[order][4].O = s.Rows[order][4].O%3 + 1 })
		for _, n := range []int{0, -1, 6, 7, math.MaxInt, math.MinInt, 1 << 32} {
			change(fmt.Sprintf("number %d as S", n)+in, func(s *impl.Store) { s.Rows[order][0].S = n })
			change(fmt.Sprintf("number %d as P", n)+in, func(s *impl.Store) { s.Rows[order][4].P = n })
			change(fmt.Sprintf("number %d as O", n)+in, func(s *impl.Store) { s.Rows[order][2].O = n })
		}
	}
	return out
}

func TestStoresOfNoGraph(t *testing.T) {
	if !impl.StoreOk(copyOfStore(storeOf(t, plainGraph()))) {
		t.Fatal("the store without a fault")
	}
	for what, s := range changedStores(t) {
		checkNoStore(t, what, s)
	}
}

// A fault that all six orders have alike is one still.
func TestStoresThatAreWrongInAllOrders(t *testing.T) {
	for what, c := range map[string]struct {
		terms []impl.Term
		rows  []impl.Row
	}{
		"a term of no triple":                  {[]impl.Term{name("a"), name("b"), name("p")}, []impl.Row{row(1, 3, 1)}},
		"a term of no triple ahead of all":     {[]impl.Term{name("a"), name("b"), name("p")}, []impl.Row{row(2, 3, 2)}},
		"terms and no triple":                  {[]impl.Term{name("a")}, nil},
		"a row twice":                          {[]impl.Term{name("a"), name("p")}, []impl.Row{row(1, 2, 1), row(1, 2, 1)}},
		"a term twice, each used":              {[]impl.Term{name("a"), name("a"), name("p")}, []impl.Row{row(1, 3, 2)}},
		"terms out of order, each used":        {[]impl.Term{name("b"), name("a"), name("p")}, []impl.Row{row(1, 3, 2)}},
		"a text as S":                          {[]impl.Term{name("p"), text("x")}, []impl.Row{row(2, 1, 2)}},
		"a number as S":                        {[]impl.Term{name("p"), number(1, 0)}, []impl.Row{row(2, 1, 2)}},
		"a blank as P":                         {[]impl.Term{name("a"), blank(1)}, []impl.Row{row(1, 2, 1)}},
		"a text as P":                          {[]impl.Term{name("a"), text("x")}, []impl.Row{row(1, 2, 1)}},
		"a term that may not be as O":          {[]impl.Term{{}, name("a")}, []impl.Row{row(2, 2, 1)}},
		"a number that may not be as O":        {[]impl.Term{name("a"), number(10, 1)}, []impl.Row{row(1, 1, 2)}},
		"numbers from 0 on":                    {[]impl.Term{name("a"), name("p")}, []impl.Row{row(0, 1, 0)}},
		"a number behind all terms":            {[]impl.Term{name("a"), name("p")}, []impl.Row{row(1, 2, 3)}},
		"rows without terms":                   {nil, []impl.Row{row(1, 1, 1)}},
		"the row of nought without terms":      {nil, []impl.Row{{}}},
		"a number below nought for each place": {[]impl.Term{name("a"), name("p")}, []impl.Row{row(-1, -2, -1)}},
	} {
		s := impl.Store{Terms: c.terms}
		for range 6 {
			s.Rows = append(s.Rows, append([]impl.Row{}, c.rows...))
		}
		checkNoStore(t, what, s)
	}
}

// manyRows is what StoreOf would make of so many triples, if it took them.
func manyRows(count int) impl.Store {
	s := impl.Store{Terms: []impl.Term{name("a"), name("p")}}
	var rows []impl.Row
	for i := range count {
		s.Terms = append(s.Terms, blank(i))
		rows = append(rows, row(1, 2, i+3))
	}
	for range 6 {
		s.Rows = append(s.Rows, append([]impl.Row{}, rows...))
	}
	return s
}

func TestStoresOfTooManyTriples(t *testing.T) {
	if s := manyRows(impl.MaxTriples); !impl.StoreOk(s) || len(impl.Scan(s, impl.InOPS, nil)) != impl.MaxTriples || impl.IdOf(s, blank(59)) != 62 {
		t.Error("as many triples as may be are refused")
	}
	checkNoStore(t, "a triple more than may be", manyRows(impl.MaxTriples+1))
	checkNoStore(t, "a thousand triples", manyRows(1000))
	long := manyRows(impl.MaxTriples)
	long.Rows[3] = manyRows(1000).Rows[3]
	checkNoStore(t, "a thousand triples in one order", long)
}

// Whatever is changed in a store, StoreOk tells what its parts tell one by one.
func TestStoresAsMeant(t *testing.T) {
	source := rand.New(rand.NewSource(6))
	terms := append(append(goodTerms(), badTerms()...), name("c"), name("d"), name("e"), name("f"))
	var seen [2]int
	for range 6000 {
		s := copyOfStore(storeOf(t, denseGraph(source, source.Intn(5), 1+source.Intn(4))))
		if source.Intn(2) == 0 && len(s.Terms) > 0 {
			s.Terms[source.Intn(len(s.Terms))] = terms[source.Intn(len(terms))]
		}
		if source.Intn(4) == 0 && len(s.Rows[0]) > 0 {
			r, with := s.Rows[0][source.Intn(len(s.Rows[0]))], row(1+source.Intn(4), 1+source.Intn(4), 1+source.Intn(4))
			for order := range s.Rows {
				for i, x := range s.Rows[order] {
					if x == r {
						s.Rows[order][i] = with
					}
				}
				if source.Intn(20) != 0 {
					sort.Slice(s.Rows[order], func(i, j int) bool { return isAhead(order, s.Rows[order][i], s.Rows[order][j]) })
				}
			}
		}
		want := isMeantStore(s)
		if impl.StoreOk(s) != want {
			t.Fatalf("want %v: %s", want, tellStore(s))
		}
		if !want {
			checkNoStore(t, "as meant", s)
			seen[0]++
			continue
		}
		checkScan(t, s, source.Intn(6), source.Intn(5))
		seen[1]++
	}
	if seen[0] < 1000 || seen[1] < 1000 {
		t.Errorf("%v shows too little", seen)
	}
}

func TestStoresAreNewMemory(t *testing.T) {
	room := []byte("abpq!")
	list := []impl.Triple{
		triple(impl.Term{Text: room[:1]}, impl.Term{Text: room[2:3]}, impl.Term{Text: room[1:2]}),
		triple(impl.Term{Text: room[:1]}, impl.Term{Text: room[2:3]}, impl.Term{Kind: impl.TmText, Text: room[:1]}),
		triple(impl.Term{Text: room[:1]}, impl.Term{Text: room[2:4]}, impl.Term{Text: room[:1]}),
		{},
	}
	s := storeOf(t, impl.Graph{List: list[:3]})
	before := tellStore(s)
	if len(s.Terms) != 5 || string(room) != "abpq!" || !sameTriple(list[3], impl.Triple{}) {
		t.Fatal(before, string(room))
	}
	for i := range room {
		room[i] = '!'
	}
	list[0], list[1] = impl.Triple{}, impl.Triple{}
	if tellStore(s) != before {
		t.Errorf("%s, was %s", tellStore(s), before)
	}
	spoilTexts(t, s)
	spoilRows(t, s)
}

// spoilTexts writes all over each term's text, and looks at the others.
func spoilTexts(t *testing.T, s impl.Store) {
	t.Helper()
	for i := range s.Terms {
		others := copyOfStore(s)
		others.Terms[i] = impl.Term{}
		before := tellStore(others)
		own := s.Terms[i].Text[:cap(s.Terms[i].Text)]
		for k := range own {
			own[k] ^= 1
		}
		if tellStore(others) != before {
			t.Errorf("the text of term %d is shared", i)
		}
	}
}

// spoilRows writes all over each order, the room behind it too, and looks at the others.
func spoilRows(t *testing.T, s impl.Store) {
	t.Helper()
	for order := range s.Rows {
		before := fmt.Sprint(s.Rows[:order], s.Rows[order+1:])
		own := s.Rows[order][:cap(s.Rows[order])]
		for i := range own {
			own[i].S += 1000
		}
		if fmt.Sprint(s.Rows[:order], s.Rows[order+1:]) != before {
			t.Errorf("order %d is shared", order)
		}
	}
}

func TestScansAreNewMemory(t *testing.T) {
	s := storeOf(t, plainGraph())
	before := tellStore(s)
	for order := range 6 {
		for _, keys := range [][]int{nil, {1}, {4}, {0}, {9}} {
			got := impl.Scan(s, order, keys)
			got = got[:cap(got)]
			for i := range got {
				got[i] = row(9, 9, 9)
			}
			_ = append(got[:0], row(8, 8, 8))
		}
	}
	if tellStore(s) != before {
		t.Errorf("%s, was %s", tellStore(s), before)
	}
}

func TestStoreArgumentsAreLeftAlone(t *testing.T) {
	s := copyOfStore(storeOf(t, plainGraph()))
	terms := append(append([]impl.Term{}, s.Terms...), name("z"), impl.Term{})
	rows := append(append([]impl.Row{}, s.Rows[3]...), row(5, 5, 5), row(0, 0, 0))
	orders := append(append([][]impl.Row{}, s.Rows...), []impl.Row{row(7, 7, 7)})
	orders[3] = rows[:5]
	given := impl.Store{Terms: terms[:5], Rows: orders[:6]}
	keys := []int{4, 2, 1, 9, 9}
	before := tellStore(impl.Store{Terms: terms, Rows: append(orders, rows)})
	for range 2 {
		if !impl.StoreOk(given) || impl.IdOf(given, name("z")) != 0 || impl.IdOf(given, name("q")) != 5 || !sameRows(impl.Scan(given, impl.InPOS, keys[:2]), []impl.Row{row(1, 4, 2)}) {
			t.Fatal(tellStore(given))
		}
	}
	if after := tellStore(impl.Store{Terms: terms, Rows: append(orders, rows)}); after != before || fmt.Sprint(keys) != "[4 2 1 9 9]" {
		t.Errorf("%s %v, was %s", after, keys, before)
	}
}
