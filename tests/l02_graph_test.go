package tests

import (
	"fmt"
	"math/big"
	"math/rand"
	"regexp"
	"sort"
	"strings"
	"testing"

	"loop.example/g00347/impl"
)

func triple(s impl.Term, p impl.Term, o impl.Term) impl.Triple { return impl.Triple{S: s, P: p, O: o} }

func graph(list ...impl.Triple) impl.Graph { return impl.Graph{List: list} }

func sameTriple(a impl.Triple, b impl.Triple) bool {
	return same(a.S, b.S) && same(a.P, b.P) && same(a.O, b.O)
}

func sameGraph(a impl.Graph, b impl.Graph) bool {
	if len(a.List) != len(b.List) {
		return false
	}
	for i := range a.List {
		if !sameTriple(a.List[i], b.List[i]) {
			return false
		}
	}
	return true
}

func tellGraph(g impl.Graph) string {
	out := ""
	for _, t := range g.List {
		out += "[" + tell(t.S) + tell(t.P) + tell(t.O) + "]"
	}
	return out
}

// countedTriples ascend, as many as are wanted, and are short as texts.
func countedTriples(count int) []impl.Triple {
	var out []impl.Triple
	for i := range count {
		out = append(out, triple(name("a"), name("p"), blank(100000+i)))
	}
	return out
}

func ascending(list []impl.Triple) impl.Graph {
	sort.Slice(list, func(i, j int) bool { return orderOf(list[i], list[j]) < 0 })
	var out []impl.Triple
	for i, t := range list {
		if i == 0 || orderOf(list[i-1], t) != 0 {
			out = append(out, t)
		}
	}
	return impl.Graph{List: out}
}

func orderOf(a impl.Triple, b impl.Triple) int {
	for _, c := range []int{impl.Compare(a.S, b.S), impl.Compare(a.P, b.P), impl.Compare(a.O, b.O)} {
		if c != 0 {
			return c
		}
	}
	return 0
}

func randomTerm(source *rand.Rand, kinds ...int) impl.Term {
	good := goodTerms()
	for {
		t := good[source.Intn(len(good))]
		for _, kind := range kinds {
			if t.Kind == kind {
				return t
			}
		}
	}
}

func randomGraph(source *rand.Rand, most int) impl.Graph {
	var list []impl.Triple
	for range source.Intn(most + 1) {
		list = append(list, triple(
			randomTerm(source, impl.TmName, impl.TmBlank),
			randomTerm(source, impl.TmName),
			randomTerm(source, impl.TmName, impl.TmBlank, impl.TmText, impl.TmNum)))
	}
	return ascending(list)
}

type reading struct {
	text string
	code int
	at   int
}

// checkRefused wants of each a code that refuses, its place, and no graph.
func checkRefused(t *testing.T, all []reading) {
	t.Helper()
	for _, c := range all {
		g, code, at := impl.GraphRead([]byte(c.text))
		if code != c.code || at != c.at || len(g.List) != 0 {
			t.Errorf("%q: %d at %d, %d triples, want %d at %d", c.text, code, at, len(g.List), c.code, c.at)
		}
	}
}

func checkRead(t *testing.T, text string, want impl.Graph) {
	t.Helper()
	g, code, at := impl.GraphRead([]byte(text))
	if code != impl.ReadWell || at != 0 || !sameGraph(g, want) {
		t.Errorf("%q: %d at %d, %s, want %s", text, code, at, tellGraph(g), tellGraph(want))
	}
}

func TestGraphConstants(t *testing.T) {
	got := []int{impl.MaxGraph, impl.MaxTriples, impl.ReadWell, impl.ReadLong, impl.ReadByte, impl.ReadForm}
	want := []int{3000, 60, 0, 1, 2, 3}
	for i := range want {
		if got[i] != want[i] {
			t.Errorf("constant %d: %d, want %d", i, got[i], want[i])
		}
	}
}

func TestTriplesThatMayBe(t *testing.T) {
	all := append(goodTerms(), badTerms()...)
	for _, x := range all {
		isName := impl.TermOk(x) && x.Kind == impl.TmName
		isBlank := impl.TermOk(x) && x.Kind == impl.TmBlank
		if impl.TripleOk(triple(x, name("p"), name("o"))) != (isName || isBlank) {
			t.Errorf("as S: %s", tell(x))
		}
		if impl.TripleOk(triple(name("s"), x, name("o"))) != isName {
			t.Errorf("as P: %s", tell(x))
		}
		if impl.TripleOk(triple(name("s"), name("p"), x)) != impl.TermOk(x) {
			t.Errorf("as O: %s", tell(x))
		}
	}
	if impl.TripleOk(impl.Triple{}) {
		t.Error("the zero value is none")
	}
}

func TestGraphsThatMayBe(t *testing.T) {
	a, b := triple(name("a"), name("p"), number(1, 0)), triple(name("b"), name("p"), number(1, 0))
	low, high := triple(name("a"), name("p"), number(15, 1)), triple(name("a"), name("p"), number(2, 0))
	bad := triple(name("c"), blank(1), number(1, 0))
	for i, c := range []struct {
		g    impl.Graph
		want bool
	}{
		{impl.Graph{}, true}, {impl.Graph{List: []impl.Triple{}}, true},
		{graph(a), true}, {graph(a, b), true}, {graph(b, a), false}, {graph(a, a), false}, {graph(a, b, b), false}, {graph(b, a, b), false},
		{graph(a, low, high, b), true}, {graph(a, high, low, b), false},
		{graph(bad), false}, {graph(a, b, bad), false}, {graph(impl.Triple{}), false}, {graph(impl.Triple{}, a), false},
		// S counts ahead of P, and P ahead of O.
		{graph(triple(name("a"), name("q"), number(2, 0)), triple(name("b"), name("p"), number(1, 0))), true},
		{graph(triple(name("b"), name("p"), number(1, 0)), triple(name("a"), name("q"), number(2, 0))), false},
		{graph(triple(name("a"), name("p"), number(2, 0)), triple(name("a"), name("q"), number(1, 0))), true},
		{graph(triple(name("a"), name("q"), number(1, 0)), triple(name("a"), name("p"), number(2, 0))), false},
		{graph(triple(name("z"), name("p"), number(1, 0)), triple(blank(0), name("p"), number(1, 0))), true},
		{graph(countedTriples(60)...), true}, {graph(countedTriples(61)...), false},
	} {
		if impl.GraphOk(c.g) != c.want {
			t.Errorf("graph %d: %s", i, tellGraph(c.g))
		}
	}
}

func TestGraphText(t *testing.T) {
	g := graph(
		triple(name("a"), name("p"), name("b")),
		triple(name("a"), name("p"), blank(7)),
		triple(name("a"), name("p"), text("x \" \\ y")),
		triple(name("a"), name("p"), number(-15, 1)),
		triple(blank(0), name("q"), text("")))
	want := "<a> <p> <b> .\n<a> <p> _:7 .\n<a> <p> \"x \\\" \\\\ y\" .\n<a> <p> -1.5 .\n_:0 <q> \"\" .\n"
	if got, ok := impl.GraphText(g); !ok || string(got) != want {
		t.Errorf("%q %v", got, ok)
	}
	if got, ok := impl.GraphText(impl.Graph{}); !ok || len(got) != 0 {
		t.Errorf("the empty graph: %q %v", got, ok)
	}
	x := triple(name("a"), name("p"), number(1, 0))
	for _, wrong := range []impl.Graph{graph(x, x), graph(impl.Triple{}), graph(x, impl.Triple{}), graph(countedTriples(61)...)} {
		if got, ok := impl.GraphText(wrong); ok || len(got) != 0 {
			t.Errorf("%s: %q %v", tellGraph(wrong), got, ok)
		}
	}
}

func TestGraphTextMayBeTooLongToRead(t *testing.T) {
	var list []impl.Triple
	for i := range impl.MaxTriples {
		list = append(list, triple(name("a"), name("p"), text(fmt.Sprintf("%02d%s", i, strings.Repeat("\\", 28)))))
	}
	got, ok := impl.GraphText(graph(list...))
	if !ok || len(got) <= impl.MaxGraph {
		t.Fatal(len(got), ok)
	}
	checkRefused(t, []reading{{string(got), impl.ReadLong, 0}})
}

func TestGraphRead(t *testing.T) {
	checkRead(t, "", impl.Graph{})
	checkRead(t, " \n \n\n ", impl.Graph{})
	one := graph(triple(name("a"), name("p"), number(5, 0)))
	for _, s := range []string{"<a> <p> 5 .\n", "<a> <p> 5 .", "<a><p>5.", "\n <a>\n<p>  5\n. ", "<a> <p> 5 . <a> <p> 5 .", "<a><p>5.<a><p>5.<a><p>5."} {
		checkRead(t, s, one)
	}
	checkRead(t, "_:2 <p> \"x\" . <b> <q> -1.5 .\n<b> <p> _:0 . <a> <q> <a> . <b> <q> -1.5 .", graph(
		triple(name("a"), name("q"), name("a")),
		triple(name("b"), name("p"), blank(0)),
		triple(name("b"), name("q"), number(-15, 1)),
		triple(blank(2), name("p"), text("x"))))
	checkRead(t, `_:1<p>"a\"b\\"._:1<p>"."._:1<p>"<a> . ?x"._:1<p>-0.5.`, graph(
		triple(blank(1), name("p"), text(".")),
		triple(blank(1), name("p"), text("<a> . ?x")),
		triple(blank(1), name("p"), text(`a"b\`)),
		triple(blank(1), name("p"), number(-5, 1))))
}

func TestEachTermIsReadAsShowWritesIt(t *testing.T) {
	all := append(goodTerms(), mixedNumbers(500)...)
	for b := 32; b <= 126; b++ {
		all = append(all, text(string([]byte{byte(b)})), text(string([]byte{'\\', byte(b), '"'})))
	}
	all = append(all, text(strings.Repeat(`"`, 30)), text(strings.Repeat(`\`, 30)))
	for _, x := range all {
		want := graph(triple(name("a"), name("p"), x))
		shown := string(impl.Show(x))
		checkRead(t, "<a> <p> "+shown+" .", want)
		checkRead(t, "<a><p>"+shown+".", want)
		if x.Kind == impl.TmName || x.Kind == impl.TmBlank {
			checkRead(t, shown+"<p>1.", graph(triple(x, name("p"), number(1, 0))))
		}
		if x.Kind == impl.TmName {
			checkRead(t, "<a>"+shown+"1.", graph(triple(name("a"), x, number(1, 0))))
		}
	}
}

func TestTokensThatAreNone(t *testing.T) {
	none := []string{
		"00", "01", "007", "-0", "-01", "1.0", "1.50", "0.0", "-0.0", "00.5", "-00.5", "1.2.3", "1.2.3.4", "1a", "1A", "1.5a", "1a.5", "1e5", "0x1", "-1a", "5B.",
		"1000000000000001", "-1000000000000001", "9999999999999999", "9223372036854775807", "9223372036854775808", "18446744073709551617", "99999999999999999999999999", "0.0000001", "1.0000001", "100000000000000.01", "0.00000000000000000000001",
		`"`, `"x`, `"x\`, `"x\"`, `"\"`, `"\n"`, `"a\b"`, `"\x"`, "\"a\nb\"", "\"\x1f\"", "\"\x7f\"", "\"\xff\"", `"` + strings.Repeat("a", 31) + `"`, `"` + strings.Repeat(`\"`, 31) + `"`,
		"_", "_:", "_: 1", "_1", "_a", "_:a", "_:A", "_:-1", "_:+1", "_:01", "_:00", "_:1a", "_:1.5", "_:.5", "_:1000000", "_:99999999999999999999", `_:"a"`, "_:<a>",
		"?", "? x", "?X", "?1", "?1a", "?xY", "?x.5", "?.5", "?-", "?<a>", "?aaaaaaaaaaaaa",
		"a", "z", "abc", ">", ",", ";", ":", "!", "#", "$", "%", "'", "@", "[", "]", "^", "`", "~", "\\", "\t", "\r", "\x00", "\x7f", "\x80", "\xff", "é",
	}
	for _, s := range none {
		checkRefused(t, []reading{
			{s, impl.ReadByte, 0},
			{"<a> <p> " + s + " .", impl.ReadByte, 8},
			{"\n<a><p>" + s, impl.ReadByte, 7},
			{". ( " + s + " ? ?", impl.ReadByte, 4},
		})
	}
	checkRefused(t, []reading{
		// `<` is a sign where no name follows, and what is behind it is looked at by itself.
		{"<a", impl.ReadByte, 1}, {"<a <p> 1 .", impl.ReadByte, 1}, {"< a>", impl.ReadByte, 2}, {"<A>", impl.ReadByte, 2}, {"<>", impl.ReadByte, 1}, {"<1>", impl.ReadByte, 2}, {"<a.>", impl.ReadByte, 1}, {"<a.5>", impl.ReadByte, 1}, {"<aB>", impl.ReadByte, 1}, {"<aaaaaaaaaaaaa>", impl.ReadByte, 1}, {"<1a>", impl.ReadByte, 1}, {"<a b>", impl.ReadByte, 1}, {"<<a>>", impl.ReadByte, 4}, {"<a>>", impl.ReadByte, 3},
		// So is `-` ahead of all but a digit.
		{"-a", impl.ReadByte, 1}, {"--01", impl.ReadByte, 1}, {"-.5a", impl.ReadByte, 2},
		{"ABc", impl.ReadByte, 2}, {"A_", impl.ReadByte, 1}, {"A01", impl.ReadByte, 1},
		{`<a> <p> "a" " .`, impl.ReadByte, 12}, {`<a> <p> "a"b" .`, impl.ReadByte, 11},
	})
}

func TestEachByteAlone(t *testing.T) {
	const signs = ".{}()*+-/=<&|"
	for b := range 256 {
		s := string([]byte{byte(b)})
		code := impl.ReadByte
		switch {
		case s == " " || s == "\n":
			code = impl.ReadWell
		case strings.Contains(signs, s), '0' <= b && b <= '9', 'A' <= b && b <= 'Z':
			code = impl.ReadForm
		}
		checkRefused(t, []reading{{s, code, 0}})
	}
}

func TestTokensThatCannotStandThere(t *testing.T) {
	wrong := []string{".", "{", "}", "(", ")", "*", "+", "-", "/", "=", "<", "&", "|", "?x", "?aaaaaaaaaaaa", "A", "SELECT", "WHERE"}
	for _, s := range wrong {
		checkRefused(t, []reading{
			{s, impl.ReadForm, 0}, {" " + s + " <p> 1 .", impl.ReadForm, 1},
			{"<a> " + s + " 1 .", impl.ReadForm, 4},
			{"<a> <p> " + s + " .", impl.ReadForm, 8},
		})
		if s != "." {
			checkRefused(t, []reading{{"<a> <p> 1 " + s, impl.ReadForm, 10}})
		}
	}
	for _, s := range []string{"1", "-1.5", `"x"`, `""`} {
		checkRefused(t, []reading{{s + " <p> 1 .", impl.ReadForm, 0}, {"\n" + s, impl.ReadForm, 1}, {"<a> " + s + " 1 .", impl.ReadForm, 4}})
	}
	for _, s := range []string{"1", "-1.5", `"x"`, `""`, "<a>", "_:1"} {
		checkRefused(t, []reading{{"<a> <p> 1 " + s + " .", impl.ReadForm, 10}})
	}
	checkRefused(t, []reading{
		{"<a> _:1 5 .", impl.ReadForm, 4}, {"_:1 _:1 _:1 .", impl.ReadForm, 4},
		{"<a> <p> 5 . .", impl.ReadForm, 12}, {"<a> <p> 5 .\n5 <p> 5 .", impl.ReadForm, 12}, {"<a> <p> 5 .\n<a> <p> 5 <p> .", impl.ReadForm, 22},
		{"<a><p>5.5<b>", impl.ReadForm, 9}, {"<a><p>-.", impl.ReadForm, 6}, {"<a><p>1-2.", impl.ReadForm, 7}, {"<a><p>.5.", impl.ReadForm, 6},
	})
}

func TestTextsThatEndTooEarly(t *testing.T) {
	parts := []string{"<a>", "<p>", `"x"`, ".", "_:1", "<q>", "-2.5", "."}
	for count := range parts {
		for _, gap := range []string{"", " ", "\n"} {
			for _, end := range []string{"", " ", "\n  \n"} {
				s := strings.Join(parts[:count], gap) + end
				if count%4 == 0 {
					if g, code, at := impl.GraphRead([]byte(s)); code != impl.ReadWell || at != 0 || len(g.List) != count/4 {
						t.Errorf("%q: %d at %d", s, code, at)
					}
					continue
				}
				checkRefused(t, []reading{{s, impl.ReadForm, len(s)}})
			}
		}
	}
}

func TestLongGraphs(t *testing.T) {
	const triples = "<a> <p> 5 .\n"
	one := graph(triple(name("a"), name("p"), number(5, 0)))
	checkRead(t, strings.Repeat(triples, impl.MaxGraph/len(triples)), one)
	checkRead(t, triples+strings.Repeat(" ", impl.MaxGraph-len(triples)), one)
	checkRead(t, strings.Repeat("\n", impl.MaxGraph), impl.Graph{})
	checkRefused(t, []reading{
		{strings.Repeat(triples, impl.MaxGraph/len(triples)) + " ", impl.ReadLong, 0},
		{strings.Repeat("\n", impl.MaxGraph+1), impl.ReadLong, 0},
		{strings.Repeat("!", impl.MaxGraph+1), impl.ReadLong, 0},
		{strings.Repeat(".", impl.MaxGraph+1), impl.ReadLong, 0},
		{strings.Repeat(" ", impl.MaxGraph-1) + "!", impl.ReadByte, impl.MaxGraph - 1},
		{strings.Repeat(" ", impl.MaxGraph-1) + ".", impl.ReadForm, impl.MaxGraph - 1},
		{"<a>" + strings.Repeat(" ", impl.MaxGraph-3), impl.ReadForm, impl.MaxGraph},
		{strings.Repeat("<", impl.MaxGraph-1) + "!", impl.ReadByte, impl.MaxGraph - 1},
		{"\"" + strings.Repeat("a", impl.MaxGraph-1), impl.ReadByte, 0},
		{strings.Repeat("9", impl.MaxGraph), impl.ReadByte, 0},
	})
}

func triplesText(list []impl.Triple) string {
	out := ""
	for i := len(list) - 1; i >= 0; i-- {
		t := list[i]
		out += string(impl.Show(t.S)) + string(impl.Show(t.P)) + string(impl.Show(t.O)) + "."
	}
	return out
}

func TestManyTriples(t *testing.T) {
	most, more := countedTriples(impl.MaxTriples), countedTriples(impl.MaxTriples+1)
	checkRead(t, triplesText(most), graph(most...))
	checkRead(t, triplesText(most)+triplesText(most), graph(most...))
	checkRead(t, triplesText(most)+triplesText(most[:30])+triplesText(most[:30])+"\n", graph(most...))
	checkRefused(t, []reading{
		{triplesText(more), impl.ReadLong, 0},
		{triplesText(most) + triplesText(more), impl.ReadLong, 0},
		// What is no token or can't stand there counts ahead of how many there are.
		{triplesText(more) + " !", impl.ReadByte, len(triplesText(more)) + 1},
		{triplesText(more) + " .", impl.ReadForm, len(triplesText(more)) + 1},
		{triplesText(more) + "<a> ", impl.ReadForm, len(triplesText(more)) + 4},
	})
}

func TestWhichReasonCounts(t *testing.T) {
	checkRefused(t, []reading{
		{". !", impl.ReadByte, 2}, {"<a> <p> 5 5 . 01", impl.ReadByte, 14}, {"? !", impl.ReadByte, 0}, {". .", impl.ReadForm, 0}, {"5 <p>", impl.ReadForm, 0}, {"<a> <p> 5", impl.ReadForm, 9}, {"<a> 5 <p> !", impl.ReadByte, 10},
	})
}

func TestGraphsComeBackFromTheirTexts(t *testing.T) {
	source := rand.New(rand.NewSource(2))
	seen, doubled := 0, 0
	for range 2000 {
		g := randomGraph(source, 1+source.Intn(impl.MaxTriples))
		b, ok := impl.GraphText(g)
		if !ok || !impl.GraphOk(g) {
			t.Fatal(tellGraph(g))
		}
		if len(b) > impl.MaxGraph {
			checkRefused(t, []reading{{string(b), impl.ReadLong, 0}})
			continue
		}
		seen++
		checkRead(t, string(b), g)
		if 2*len(b) <= impl.MaxGraph {
			doubled++
			checkRead(t, string(b)+string(b), g)
		}
		list := append([]impl.Triple{}, g.List...)
		source.Shuffle(len(list), func(i, j int) { list[i], list[j] = list[j], list[i] })
		checkRead(t, triplesText(list), g)
	}
	if seen < 500 || doubled < 300 {
		t.Errorf("%d, %d graphs show too little", seen, doubled)
	}
}

const piece = `(?:[A-Za-z0-9]|\.[0-9])*`

var (
	numberStart = regexp.MustCompile(`^-?[0-9]` + piece)
	numberWhole = regexp.MustCompile(`^(0|-?[1-9][0-9]*|-?(0|[1-9][0-9]*)\.[0-9]{0,5}[1-9])$`)
	nameWhole   = regexp.MustCompile(`^<[a-z][a-z0-9]{0,11}>`)
	textWhole   = regexp.MustCompile(`^"(?:[ -!#-\[\]-~]|\\["\\]){0,30}"`)
	blankStart  = regexp.MustCompile(`^_:` + piece)
	blankWhole  = regexp.MustCompile(`^_:(0|[1-9][0-9]{0,5})$`)
	varStart    = regexp.MustCompile(`^\?` + piece)
	varWhole    = regexp.MustCompile(`^\?[a-z][a-z0-9]{0,11}$`)
	wordWhole   = regexp.MustCompile(`^[A-Z]+`)
	signWhole   = regexp.MustCompile(`^[.{}()*+/=<&|-]`)
)

// meantToken tells what begins there, by the words of the document: the token
// (nothing, if it is none) and of which kind it is (a sign is its own).
func meantToken(s string) (string, string) {
	raw := numberStart.FindString(s)
	switch {
	case raw != "" && isMeantNumber(raw):
		return raw, "literal"
	case raw != "":
		return "", ""
	case nameWhole.MatchString(s):
		return nameWhole.FindString(s), "name"
	case s[0] == '"':
		return textWhole.FindString(s), "literal"
	case blankStart.MatchString(s):
		return blankWhole.FindString(blankStart.FindString(s)), "blank"
	case s[0] == '?':
		return varWhole.FindString(varStart.FindString(s)), "variable"
	case wordWhole.MatchString(s):
		return wordWhole.FindString(s), "word"
	}
	return signWhole.FindString(s), signWhole.FindString(s)
}

func isMeantNumber(raw string) bool {
	if !numberWhole.MatchString(raw) {
		return false
	}
	digits, _ := new(big.Int).SetString(strings.Replace(raw, ".", "", 1), 10)
	return digits.CmpAbs(big.NewInt(impl.MaxWhole)) <= 0
}

// meantReading tells a code, a place, and the unlike triples as texts in the order of their bytes.
func meantReading(s string) (int, int, []string) {
	if len(s) > 3000 {
		return impl.ReadLong, 0, nil
	}
	var kinds, raws []string
	var places []int
	for at := 0; at < len(s); {
		if s[at] == ' ' || s[at] == '\n' {
			at++
			continue
		}
		raw, kind := meantToken(s[at:])
		if raw == "" {
			return impl.ReadByte, at, nil
		}
		kinds, raws, places = append(kinds, kind), append(raws, raw), append(places, at)
		at += len(raw)
	}
	want := []string{" name blank ", " name ", " name blank literal ", " . "}
	unlike := map[string]int{}
	for i, kind := range kinds {
		if !strings.Contains(want[i%4], " "+kind+" ") {
			return impl.ReadForm, places[i], nil
		}
		if i%4 == 3 {
			unlike[strings.Join(raws[i-3:i], " ")]++
		}
	}
	if len(kinds)%4 != 0 {
		return impl.ReadForm, len(s), nil
	}
	if len(unlike) > 60 {
		return impl.ReadLong, 0, nil
	}
	var out []string
	for line := range unlike {
		out = append(out, line)
	}
	sort.Strings(out)
	return impl.ReadWell, 0, out
}

func checkAsMeant(t *testing.T, s string) int {
	t.Helper()
	g, code, at := impl.GraphRead([]byte(s))
	wantCode, wantAt, lines := meantReading(s)
	if code != wantCode || at != wantAt || !impl.GraphOk(g) {
		t.Fatalf("%q: %d at %d, want %d at %d", s, code, at, wantCode, wantAt)
	}
	var got []string
	for _, x := range g.List {
		got = append(got, string(impl.Show(x.S))+" "+string(impl.Show(x.P))+" "+string(impl.Show(x.O)))
	}
	sort.Strings(got)
	if strings.Join(got, "\n") != strings.Join(lines, "\n") {
		t.Fatalf("%q: %q, want %q", s, got, lines)
	}
	return code
}

func TestReadingAsMeant(t *testing.T) {
	source := rand.New(rand.NewSource(3))
	pieces := []string{"<", "a", ">", "<a>", "<b1>", "<a.5>", "_", ":", "_:", "_:1", "0", "1", "10", "-", "-1", ".", ".5", "\"", "\\", "\"x\"", "?", "?x", "A", "WHERE", " ", "\n", "{", "(", "*", "+", "/", "=", "&", "|", "é", "\t", "0.000001", "1000000000000000"}
	var seen [4]int
	for range 30000 {
		s := ""
		for range source.Intn(9) {
			s += pieces[source.Intn(len(pieces))]
		}
		seen[checkAsMeant(t, s)]++
		wellFormed := []string{"<a>", "<p>", pieces[source.Intn(len(pieces))], "."}
		checkAsMeant(t, strings.Join(wellFormed, ""))
	}
	for range 20000 {
		b, _ := impl.GraphText(randomGraph(source, 6))
		for range source.Intn(3) {
			if len(b) > 0 {
				i := source.Intn(len(b))
				b = append(b[:i:i], append([]byte(pieces[source.Intn(len(pieces))]), b[i+source.Intn(2):]...)...)
			}
		}
		seen[checkAsMeant(t, string(b))]++
	}
	if seen[impl.ReadWell] < 1000 || seen[impl.ReadByte] < 1000 || seen[impl.ReadForm] < 1000 {
		t.Errorf("%v shows too little", seen)
	}
}

func TestGraphsAreNewMemory(t *testing.T) {
	const whole = `<a><p>"xy".<a><p><a>.<a><q>"xy". <b> !`
	room := []byte(whole)
	given := room[:len(whole)-6]
	g, code, _ := impl.GraphRead(given)
	if code != impl.ReadWell || len(g.List) != 3 {
		t.Fatal(code, tellGraph(g))
	}
	want, _ := impl.GraphText(g)
	for i := range given {
		given[i] = '!'
	}
	if got, _ := impl.GraphText(g); string(got) != string(want) || string(room[len(given):]) != " <b> !" {
		t.Errorf("%q, behind it %q", got, room[len(given):])
	}
	var texts [][]byte
	for _, x := range g.List {
		texts = append(texts, x.S.Text, x.P.Text, x.O.Text)
	}
	for i, own := range texts {
		before := fmt.Sprintf("%q", append(append([][]byte{}, texts[:i]...), texts[i+1:]...))
		own = own[:cap(own)]
		for k := range own {
			own[k] ^= 1
		}
		if after := fmt.Sprintf("%q", append(append([][]byte{}, texts[:i]...), texts[i+1:]...)); after != before {
			t.Errorf("list %d is shared: %s, %s", i, before, after)
		}
	}
}

func TestGraphArgumentsAreLeftAlone(t *testing.T) {
	letters := []byte("abcd")
	list := []impl.Triple{
		triple(impl.Term{Text: letters[:1]}, name("p"), number(1, 0)),
		triple(impl.Term{Text: letters[:2]}, name("p"), number(1, 0)),
		triple(name("c"), name("p"), number(1, 0)),
		{},
	}
	g := impl.Graph{List: list[:2]}
	before := tellGraph(graph(list...))
	b, ok := impl.GraphText(g)
	if !ok || !impl.GraphOk(g) || string(b) != "<a> <p> 1 .\n<ab> <p> 1 .\n" {
		t.Fatalf("%q %v", b, ok)
	}
	for i := range b {
		b[i] = '!'
	}
	_ = append(b, '!')
	if tellGraph(graph(list...)) != before || string(letters) != "abcd" {
		t.Error(tellGraph(graph(list...)), string(letters))
	}
}
