package tests

import (
	"bytes"
	"fmt"
	"math"
	"math/big"
	"math/rand"
	"strings"
	"testing"

	"loop.example/g00347/impl"
)

const tooGreat = 1 << 62

func name(s string) impl.Term { return impl.Term{Kind: impl.TmName, Text: []byte(s)} }

func blank(n int) impl.Term { return impl.Term{Kind: impl.TmBlank, N: n} }

func text(s string) impl.Term { return impl.Term{Kind: impl.TmText, Text: []byte(s)} }

func number(n int, scale int) impl.Term {
	return impl.Term{Kind: impl.TmNum, N: n, Scale: scale}
}

func same(a impl.Term, b impl.Term) bool {
	return a.Kind == b.Kind && a.N == b.N && a.Scale == b.Scale && bytes.Equal(a.Text, b.Text)
}

func isZero(t impl.Term) bool { return same(t, impl.Term{}) }

func tell(t impl.Term) string {
	return fmt.Sprintf("{%d %q %d %d}", t.Kind, t.Text, t.N, t.Scale)
}

func bigTen(power int) *big.Int {
	return new(big.Int).Exp(big.NewInt(10), big.NewInt(int64(power)), nil)
}

func worth(t impl.Term) *big.Rat {
	return new(big.Rat).SetFrac(big.NewInt(int64(t.N)), bigTen(t.Scale))
}

// goodTerms ascend: each is ahead of all behind it.
func goodTerms() []impl.Term {
	const most = impl.MaxWhole
	return []impl.Term{
		name("a"), name("a0"), name("a0a"), name("a9"), name("aa"), name("ab"), name("b"), name("z"), name("zzzzzzzzzzzz"),
		blank(0), blank(1), blank(2), blank(10), blank(999999),
		text(""), text(" "), text(" a"), text("\""), text("A"), text("\\"), text("a"), text("aa"), text("b"), text("~"), text(strings.Repeat("~", 30)),
		number(-most, 0), number(-most+1, 0), number(-most+1, 1), number(-most+1, 5), number(-most+2, 5), number(-most+1, 6), number(-most+2, 6),
		number(-10, 0), number(-2, 0), number(-15, 1), number(-1, 0), number(-999999, 6), number(-5, 1), number(-49, 2), number(-1, 1), number(-1, 6),
		number(0, 0),
		number(1, 6), number(2, 6), number(1, 5), number(1, 4), number(1, 3), number(1, 2), number(99999, 6), number(1, 1), number(49, 2), number(5, 1), number(1, 0),
		number(1000001, 6), number(15, 1), number(2, 0), number(10, 0), number(101, 1),
		number(most-1, 6), number(most-1, 5), number(most-1, 1), number(most-1, 0), number(most, 0),
	}
}

func badTerms() []impl.Term {
	const most = impl.MaxWhole
	bad := []impl.Term{
		{}, name(""), name("A"), name("0a"), name("aB"), name("a b"), name("a_"), name("a`"), name("a{"), name("a/"), name("a:"), name("`"), name("{"), name("aaaaaaaaaaaaa"), name("a\x00"), name("\xe9"),
		{Kind: impl.TmName, Text: []byte("a"), N: 1}, {Kind: impl.TmName, Text: []byte("a"), N: -1}, {Kind: impl.TmName, Text: []byte("a"), Scale: 1}, {Kind: impl.TmName, Text: []byte("a"), Scale: -1},
		blank(-1), blank(1000000), blank(math.MaxInt), blank(math.MinInt),
		{Kind: impl.TmBlank, N: 1, Text: []byte("a")}, {Kind: impl.TmBlank, N: 1, Scale: 1}, {Kind: impl.TmBlank, N: 1, Scale: -1},
		text("\x1f"), text("\x7f"), text("\n"), text("a\x00"), text("\xff"), text(strings.Repeat("a", 31)),
		{Kind: impl.TmText, Text: []byte("a"), N: 1}, {Kind: impl.TmText, N: -1}, {Kind: impl.TmText, Scale: 1}, {Kind: impl.TmText, Scale: -1},
		number(most+1, 0), number(-most-1, 0), number(most+1, 6), number(-most-1, 6), number(most, 1), number(-most, 1), number(math.MaxInt, 0), number(math.MinInt, 0), number(math.MaxInt, 6), number(math.MinInt, 6),
		number(1, 7), number(1, -1), number(1, math.MaxInt), number(1, math.MinInt), number(0, 7), number(0, -1),
		{Kind: impl.TmNum, N: 1, Text: []byte("a")}, {Kind: impl.TmNum, N: 1, Text: []byte{0}},
		{Kind: -1, Text: []byte("a")}, {Kind: 4, N: 1}, {Kind: 4, Text: []byte("a")}, {Kind: math.MaxInt}, {Kind: math.MinInt, N: 1},
	}
	for scale := 1; scale <= impl.MaxScale; scale++ {
		bad = append(bad, number(0, scale), number(10, scale), number(-10, scale), number(120, scale))
	}
	return bad
}

// mixedNumbers are numbers of every length and scale, the greatest and round ones among them.
func mixedNumbers(count int) []impl.Term {
	source := rand.New(rand.NewSource(1))
	var out []impl.Term
	for _, t := range goodTerms() {
		if t.Kind == impl.TmNum {
			out = append(out, t)
		}
	}
	for len(out) < count {
		n := source.Intn(impl.MaxWhole + 1)
		for cut := source.Intn(16); cut > 0; cut-- {
			n /= 10
		}
		for _, factor := range []int{2, 5} {
			for k := source.Intn(12); k > 0 && n != 0 && n*factor <= impl.MaxWhole; k-- {
				n *= factor
			}
		}
		t := number(n*(1-2*source.Intn(2)), source.Intn(impl.MaxScale+1))
		if impl.TermOk(t) {
			out = append(out, t)
		}
	}
	return out
}

func TestTermsThatMayBe(t *testing.T) {
	for _, x := range goodTerms() {
		if !impl.TermOk(x) {
			t.Errorf("refused: %s", tell(x))
		}
	}
	for _, x := range badTerms() {
		if impl.TermOk(x) {
			t.Errorf("accepted: %s", tell(x))
		}
	}
	if !impl.TermOk(impl.Term{Kind: impl.TmNum, Text: []byte{}}) || !impl.TermOk(impl.Term{Kind: impl.TmText, Text: nil}) {
		t.Error("an empty text and nil are the same")
	}
}

func TestEachByteOfNamesAndTexts(t *testing.T) {
	for b := 0; b < 256; b++ {
		small, digit := 'a' <= b && b <= 'z', '0' <= b && b <= '9'
		if impl.TermOk(name(string([]byte{byte(b)}))) != small {
			t.Errorf("first byte %d of a name", b)
		}
		if impl.TermOk(name(string([]byte{'x', byte(b)}))) != (small || digit) {
			t.Errorf("later byte %d of a name", b)
		}
		if impl.TermOk(text(string([]byte{byte(b)}))) != (32 <= b && b <= 126) {
			t.Errorf("byte %d of a text", b)
		}
	}
}

func TestConstants(t *testing.T) {
	got := []int{impl.MaxText, impl.MaxName, impl.MaxScale, impl.MaxWhole, impl.TmName, impl.TmBlank, impl.TmText, impl.TmNum, impl.NuAdd, impl.NuSub, impl.NuMul, impl.NuDiv}
	want := []int{30, 12, 6, 1000000000000000, 0, 1, 2, 3, 0, 1, 2, 3}
	for i := range want {
		if got[i] != want[i] {
			t.Errorf("constant %d: %d, want %d", i, got[i], want[i])
		}
	}
}

func TestCompareByPlace(t *testing.T) {
	all := goodTerms()
	for i, a := range all {
		for j, b := range all {
			want := 0
			if i < j {
				want = -1
			} else if i > j {
				want = 1
			}
			if got := impl.Compare(a, b); got != want {
				t.Errorf("%s with %s: %d, want %d", tell(a), tell(b), got, want)
			}
		}
	}
}

func TestCompareWhatMayNotBe(t *testing.T) {
	for _, a := range badTerms() {
		for _, b := range badTerms() {
			if impl.Compare(a, b) != 0 {
				t.Errorf("%s and %s are not the same", tell(a), tell(b))
			}
		}
		for _, b := range goodTerms() {
			if impl.Compare(a, b) != -1 || impl.Compare(b, a) != 1 {
				t.Errorf("%s is not ahead of %s", tell(a), tell(b))
			}
		}
	}
}

func TestCompareNumbersByWorth(t *testing.T) {
	all := mixedNumbers(300)
	for _, a := range all {
		for _, b := range all {
			if got, want := impl.Compare(a, b), worth(a).Cmp(worth(b)); got != want {
				t.Fatalf("%s with %s: %d, want %d", tell(a), tell(b), got, want)
			}
			if impl.Compare(a, b) == 0 && !same(a, b) {
				t.Fatalf("%s and %s compare alike", tell(a), tell(b))
			}
		}
	}
}

func TestCompareIsAnOrder(t *testing.T) {
	all := append(append(goodTerms(), badTerms()...), mixedNumbers(80)...)
	for _, a := range all {
		if impl.Compare(a, a) != 0 {
			t.Fatalf("%s is not the same as itself", tell(a))
		}
		for _, b := range all {
			ab := impl.Compare(a, b)
			if ab != -impl.Compare(b, a) || ab < -1 || ab > 1 {
				t.Fatalf("%s with %s: %d", tell(a), tell(b), ab)
			}
			if ab == 0 && impl.TermOk(a) && !same(a, b) {
				t.Fatalf("%s and %s compare alike", tell(a), tell(b))
			}
			for _, c := range all {
				if ab <= 0 && impl.Compare(b, c) <= 0 && impl.Compare(a, c) > 0 {
					t.Fatalf("%s, %s, %s are in no order", tell(a), tell(b), tell(c))
				}
			}
		}
	}
}

func TestNum(t *testing.T) {
	const most = impl.MaxWhole
	for _, c := range []struct {
		n, scale int
		want     impl.Term
		ok       bool
	}{
		{0, 0, number(0, 0), true}, {0, 1, number(0, 0), true}, {0, 6, number(0, 0), true},
		{7, 0, number(7, 0), true}, {-7, 6, number(-7, 6), true}, {10, 0, number(10, 0), true}, {-100, 0, number(-100, 0), true},
		{1200, 3, number(12, 1), true}, {-1200, 3, number(-12, 1), true}, {1200, 2, number(12, 0), true}, {1200, 1, number(120, 0), true}, {1000000, 6, number(1, 0), true}, {10000000, 6, number(10, 0), true},
		{most, 0, number(most, 0), true}, {-most, 0, number(-most, 0), true}, {most + 1, 0, impl.Term{}, false}, {-most - 1, 0, impl.Term{}, false},
		{most, 6, number(most/1000000, 0), true}, {most - 1, 6, number(most-1, 6), true}, {most + 1, 6, impl.Term{}, false}, {1 - most, 1, number(1-most, 1), true}, {-most - 1, 1, impl.Term{}, false},
		{10 * most, 1, number(most, 0), true}, {10*most + 10, 1, impl.Term{}, false}, {10*most - 10, 1, number(most-1, 0), true}, {10*most + 10, 2, impl.Term{}, false}, {10*most - 10, 2, number(most-1, 1), true}, {10 * most, 0, impl.Term{}, false}, {100 * most, 1, impl.Term{}, false}, {-1000 * most, 3, number(-most, 0), true},
		{math.MaxInt, 0, impl.Term{}, false}, {math.MinInt, 0, impl.Term{}, false}, {math.MaxInt, 6, impl.Term{}, false}, {math.MinInt, 6, impl.Term{}, false},
		{9223372036854000000, 6, number(9223372036854, 0), true}, {-9223372036854000000, 6, number(-9223372036854, 0), true},
		{1, 7, impl.Term{}, false}, {10, 7, impl.Term{}, false}, {0, 7, impl.Term{}, false}, {1, -1, impl.Term{}, false}, {0, -1, impl.Term{}, false}, {1, math.MaxInt, impl.Term{}, false}, {1, math.MinInt, impl.Term{}, false},
	} {
		got, ok := impl.Num(c.n, c.scale)
		if ok != c.ok || !same(got, c.want) {
			t.Errorf("%d, %d: %s %v", c.n, c.scale, tell(got), ok)
		}
	}
	for scale := 0; scale <= impl.MaxScale; scale++ {
		for _, n := range []int{1, -1, 5, 99, 100, -1000, 1000000, 123456789} {
			got, ok := impl.Num(n, scale)
			if !ok || !impl.TermOk(got) || worth(got).Cmp(new(big.Rat).SetFrac(big.NewInt(int64(n)), bigTen(scale))) != 0 {
				t.Errorf("%d, %d: %s %v", n, scale, tell(got), ok)
			}
		}
	}
}

type sum struct {
	op   int
	a, b impl.Term
	want impl.Term
	ok   bool
}

func checkSums(t *testing.T, sums []sum) {
	t.Helper()
	for _, c := range sums {
		if c.ok && !impl.TermOk(c.want) {
			t.Errorf("not to be wanted: %s", tell(c.want))
		}
		got, ok := impl.Calc(c.op, c.a, c.b)
		if ok != c.ok || !same(got, c.want) {
			t.Errorf("%d of %s, %s: %s %v", c.op, tell(c.a), tell(c.b), tell(got), ok)
		}
	}
}

func TestSums(t *testing.T) {
	const most = impl.MaxWhole
	none := impl.Term{}
	checkSums(t, []sum{
		{impl.NuAdd, number(2, 0), number(3, 0), number(5, 0), true},
		{impl.NuAdd, number(15, 1), number(5, 1), number(2, 0), true},
		{impl.NuAdd, number(15, 1), number(25, 2), number(175, 2), true},
		{impl.NuAdd, number(-1, 6), number(1, 0), number(999999, 6), true},
		{impl.NuAdd, number(1, 6), number(-1, 6), number(0, 0), true},
		{impl.NuSub, number(2, 0), number(3, 0), number(-1, 0), true},
		{impl.NuSub, number(5, 1), number(-5, 1), number(1, 0), true},
		{impl.NuSub, number(123, 2), number(123, 2), number(0, 0), true},
		{impl.NuAdd, number(most-1, 0), number(1, 0), number(most, 0), true},
		{impl.NuAdd, number(most, 0), number(1, 0), none, false},
		{impl.NuSub, number(1-most, 0), number(1, 0), number(-most, 0), true},
		{impl.NuSub, number(-most, 0), number(1, 0), none, false},
		{impl.NuAdd, number(most, 0), number(most, 0), none, false},
		{impl.NuSub, number(most, 0), number(most, 0), number(0, 0), true},
		{impl.NuSub, number(-most, 0), number(most, 0), none, false},
		{impl.NuAdd, number(most-1, 1), number(1, 1), number(most/10, 0), true},
		{impl.NuAdd, number(most-1, 1), number(2, 1), none, false},
		{impl.NuAdd, number(most/10-1, 0), number(9, 1), number(most-1, 1), true},
		{impl.NuAdd, number(most/10, 0), number(1, 1), none, false},
		{impl.NuAdd, number(most, 0), number(1, 1), none, false},
		{impl.NuAdd, number(most, 0), number(1, 4), none, false},
		{impl.NuAdd, number(most, 0), number(1, 6), none, false},
		{impl.NuAdd, number(1, 6), number(-most, 0), none, false},
		{impl.NuSub, number(most, 0), number(1, 6), none, false},
		// 18446744073710 * 10^6 wraps round to 448384 and would look like a small number.
		{impl.NuAdd, number(18446744073710, 0), number(1, 6), none, false},
		{impl.NuSub, number(1, 6), number(18446744073710, 0), none, false},
	})
}

func TestProducts(t *testing.T) {
	const most = impl.MaxWhole
	none := impl.Term{}
	checkSums(t, []sum{
		{impl.NuMul, number(2, 0), number(3, 0), number(6, 0), true},
		{impl.NuMul, number(-25, 1), number(4, 0), number(-10, 0), true},
		{impl.NuMul, number(-25, 1), number(-4, 1), number(1, 0), true},
		{impl.NuMul, number(0, 0), number(-1, 6), number(0, 0), true},
		{impl.NuMul, number(-most, 0), number(0, 0), number(0, 0), true},
		{impl.NuMul, number(100, 0), number(10, 0), number(1000, 0), true},
		{impl.NuMul, number(most, 0), number(1, 0), number(most, 0), true},
		{impl.NuMul, number(most, 0), number(-1, 0), number(-most, 0), true},
		{impl.NuMul, number(most, 0), number(2, 0), none, false},
		{impl.NuMul, number(most, 0), number(1, 6), number(most/1000000, 0), true},
		{impl.NuMul, number(most, 0), number(most, 0), none, false},
		{impl.NuMul, number(1, 3), number(1, 3), number(1, 6), true},
		{impl.NuMul, number(1, 3), number(1, 4), none, false},
		{impl.NuMul, number(2, 3), number(5, 4), number(1, 6), true},
		{impl.NuMul, number(2, 4), number(5, 4), none, false},
		{impl.NuMul, number(64, 6), number(15625, 6), number(1, 6), true},
		{impl.NuMul, number(32, 6), number(3125, 6), none, false},
		{impl.NuMul, number(1, 6), number(1, 6), none, false},
		// The products at the limit end in noughts: what comes of them would be a number.
		{impl.NuMul, number(4611686018427*64, 0), number(15625, 6), number(4611686018427, 0), true},
		{impl.NuMul, number(4611686018428*64, 0), number(15625, 6), none, false},
		{impl.NuMul, number(-4611686018427*64, 0), number(15625, 6), number(-4611686018427, 0), true},
		{impl.NuMul, number(4611686018428*64, 0), number(-15625, 6), none, false},
		{impl.NuMul, number(3814697265625, 6), number(1048576, 6), number(4000000, 0), true},
		{impl.NuMul, number(19073486328125, 6), number(262144, 6), none, false},
		// 2^32 * 2^32 wraps round to 0.
		{impl.NuMul, number(1<<32, 0), number(1<<32, 0), none, false},
		{impl.NuMul, number(1<<31, 0), number(1<<31, 0), none, false},
	})
}

func TestQuotients(t *testing.T) {
	const most = impl.MaxWhole
	none := impl.Term{}
	checkSums(t, []sum{
		{impl.NuDiv, number(6, 0), number(3, 0), number(2, 0), true},
		{impl.NuDiv, number(1, 0), number(4, 0), number(25, 2), true},
		{impl.NuDiv, number(-2, 0), number(3, 0), number(-666666, 6), true},
		{impl.NuDiv, number(2, 0), number(-3, 0), number(-666666, 6), true},
		{impl.NuDiv, number(-2, 0), number(-3, 0), number(666666, 6), true},
		{impl.NuDiv, number(-1, 6), number(2, 0), number(0, 0), true},
		{impl.NuDiv, number(0, 0), number(-7, 3), number(0, 0), true},
		{impl.NuDiv, number(1, 6), number(1, 6), number(1, 0), true},
		{impl.NuDiv, number(1, 0), number(1, 6), number(1000000, 0), true},
		{impl.NuDiv, number(1, 6), number(1, 0), number(1, 6), true},
		{impl.NuDiv, number(125, 2), number(5, 1), number(25, 1), true},
		{impl.NuDiv, number(1, 0), number(0, 0), none, false},
		{impl.NuDiv, number(0, 0), number(0, 0), none, false},
		{impl.NuDiv, number(-most, 0), number(0, 0), none, false},
		// N times 10^6 is just at most 2^62, then above it.
		{impl.NuDiv, number(4611686018427, 0), number(1000, 0), number(4611686018427, 3), true},
		{impl.NuDiv, number(4611686018428, 0), number(1000, 0), none, false},
		{impl.NuDiv, number(-4611686018428, 0), number(1000, 0), none, false},
		{impl.NuDiv, number(1, 0), number(4611686018428, 0), none, false},
		{impl.NuDiv, number(18446744073710, 0), number(1, 0), none, false},
		{impl.NuDiv, number(most, 0), number(most, 0), none, false},
		{impl.NuDiv, number(461168601842, 1), number(1000, 0), number(461168601842, 4), true},
		{impl.NuDiv, number(most-1, 6), number(1, 0), number(most-1, 6), true},
		// Ahead of the sixth digit there is MaxWhole, then more than it.
		{impl.NuDiv, number(10000000000, 0), number(1, 0), number(10000000000, 0), true},
		{impl.NuDiv, number(70000000000, 0), number(7, 0), number(10000000000, 0), true},
		{impl.NuDiv, number(700000000000001, 4), number(7, 0), none, false},
		{impl.NuDiv, number(100000000000001, 4), number(1, 0), none, false},
		{impl.NuDiv, number(10000000001, 0), number(1, 0), none, false},
		{impl.NuDiv, number(-10000000001, 0), number(1, 0), none, false},
		{impl.NuDiv, number(100000000000, 0), number(1, 0), none, false},
		{impl.NuDiv, number(1, 0), number(3, 6), number(333333333333, 6), true},
		{impl.NuDiv, number(1000, 0), number(3, 6), number(333333333333333, 6), true},
		{impl.NuDiv, number(10000, 0), number(3, 6), none, false},
		// The rest is just at most 2^62 / 10, then above it.
		{impl.NuDiv, number(461168601842738, 3), number(4611686018420, 0), number(1, 1), true},
		{impl.NuDiv, number(461168601842739, 3), number(4611686018420, 0), none, false},
		{impl.NuDiv, number(461168601843, 0), number(4611686018427, 0), none, false},
		{impl.NuDiv, number(4611686018427, 0), number(4611686018427, 0), number(1, 0), true},
	})
}

func TestCalcOfWhatIsNoNumber(t *testing.T) {
	wrong := badTerms()
	for _, x := range goodTerms() {
		if x.Kind != impl.TmNum {
			wrong = append(wrong, x)
		}
	}
	for op := -1; op <= 4; op++ {
		for _, x := range wrong {
			for _, y := range []impl.Term{number(1, 0), x} {
				checkSums(t, []sum{{op, x, y, impl.Term{}, false}, {op, y, x, impl.Term{}, false}})
			}
		}
	}
	for _, op := range []int{-1, 4, 5, math.MaxInt, math.MinInt} {
		checkSums(t, []sum{{op, number(1, 0), number(1, 0), impl.Term{}, false}})
	}
}

// meant works a sum out with unbounded numbers, by the words of the document.
func meant(op int, a impl.Term, b impl.Term) (impl.Term, bool) {
	limit := big.NewInt(tooGreat)
	great := func(x *big.Int) bool { return x.CmpAbs(limit) > 0 }
	raise := func(x impl.Term, scale int) *big.Int {
		return new(big.Int).Mul(big.NewInt(int64(x.N)), bigTen(scale-x.Scale))
	}
	n, scale := new(big.Int), max(a.Scale, b.Scale)
	switch op {
	case impl.NuAdd, impl.NuSub:
		x, y := raise(a, scale), raise(b, scale)
		if great(x) || great(y) {
			return impl.Term{}, false
		}
		if op == impl.NuSub {
			y.Neg(y)
		}
		n.Add(x, y)
	case impl.NuMul:
		n.Mul(big.NewInt(int64(a.N)), big.NewInt(int64(b.N)))
		scale = a.Scale + b.Scale
		if great(n) {
			return impl.Term{}, false
		}
	case impl.NuDiv:
		scale = impl.MaxScale
		x, y := raise(a, scale), raise(b, scale)
		if great(x) || great(y) || b.N == 0 || !digitsFit(x, y) {
			return impl.Term{}, false
		}
		n.Quo(new(big.Int).Mul(x, bigTen(scale)), y)
	}
	return meantNumber(n, scale)
}

// digitsFit asks of each part of the quotient that a further digit follows.
func digitsFit(x *big.Int, y *big.Int) bool {
	x, y = new(big.Int).Abs(x), new(big.Int).Abs(y)
	for digits := 0; digits < impl.MaxScale; digits++ {
		there, rest := new(big.Int).QuoRem(new(big.Int).Mul(x, bigTen(digits)), y, new(big.Int))
		if there.Cmp(big.NewInt(impl.MaxWhole)) > 0 || rest.Cmp(big.NewInt(tooGreat/10)) > 0 {
			return false
		}
	}
	return true
}

func meantNumber(n *big.Int, scale int) (impl.Term, bool) {
	for ten := big.NewInt(10); scale > 0; scale-- {
		q, r := new(big.Int).QuoRem(n, ten, new(big.Int))
		if r.Sign() != 0 {
			break
		}
		n = q
	}
	if scale > impl.MaxScale || n.CmpAbs(big.NewInt(impl.MaxWhole)) > 0 {
		return impl.Term{}, false
	}
	return number(int(n.Int64()), scale), true
}

func TestCalcAgainstUnboundedNumbers(t *testing.T) {
	all := mixedNumbers(500)
	for op := impl.NuAdd; op <= impl.NuDiv; op++ {
		yes := 0
		for _, a := range all {
			for _, b := range all {
				got, ok := impl.Calc(op, a, b)
				want, wantOk := meant(op, a, b)
				if ok != wantOk || !same(got, want) {
					t.Fatalf("%d of %s, %s: %s %v, want %s %v", op, tell(a), tell(b), tell(got), ok, tell(want), wantOk)
				}
				if ok {
					yes++
				}
			}
		}
		if yes < 1000 || yes == len(all)*len(all) {
			t.Errorf("operation %d: %d answers show too little", op, yes)
		}
	}
}

func TestSumsAndProductsDoNotHangOnTheirOrder(t *testing.T) {
	all := mixedNumbers(300)
	for _, op := range []int{impl.NuAdd, impl.NuMul} {
		for _, a := range all {
			for _, b := range all {
				x, xOk := impl.Calc(op, a, b)
				y, yOk := impl.Calc(op, b, a)
				if xOk != yOk || !same(x, y) {
					t.Fatalf("%d of %s, %s: %s or %s", op, tell(a), tell(b), tell(x), tell(y))
				}
			}
		}
	}
}

func TestAddedAndTakenOffAgain(t *testing.T) {
	all := mixedNumbers(300)
	for _, a := range all {
		for _, b := range all {
			for _, ops := range [][2]int{{impl.NuAdd, impl.NuSub}, {impl.NuSub, impl.NuAdd}} {
				there, ok := impl.Calc(ops[0], a, b)
				if !ok {
					continue
				}
				back, ok := impl.Calc(ops[1], there, b)
				if ok && !same(back, a) {
					t.Fatalf("%s by %s: %s, then %s", tell(a), tell(b), tell(there), tell(back))
				}
			}
		}
	}
}

func TestQuotientTimesDivisorIsNoMore(t *testing.T) {
	all := mixedNumbers(400)
	seen := 0
	for _, a := range all {
		for _, b := range all {
			if a.N < 0 || b.N < 0 {
				continue
			}
			q, ok := impl.Calc(impl.NuDiv, a, b)
			if !ok {
				continue
			}
			if new(big.Rat).Mul(worth(q), worth(b)).Cmp(worth(a)) > 0 {
				t.Fatalf("%s by %s: %s", tell(a), tell(b), tell(q))
			}
			if p, fine := impl.Calc(impl.NuMul, q, b); fine {
				seen++
				if impl.Compare(p, a) > 0 {
					t.Fatalf("%s by %s: %s, times it %s", tell(a), tell(b), tell(q), tell(p))
				}
			}
		}
	}
	if seen < 1000 {
		t.Errorf("%d quotients show too little", seen)
	}
}

func TestShow(t *testing.T) {
	for _, c := range []struct {
		x    impl.Term
		want string
	}{
		{name("a"), "<a>"}, {name("z9aaaaaaaaaa"), "<z9aaaaaaaaaa>"},
		{blank(0), "_:0"}, {blank(10), "_:10"}, {blank(999999), "_:999999"},
		{text(""), `""`}, {text("a b"), `"a b"`}, {text(`"`), `"\""`}, {text(`\`), `"\\"`}, {text(`\"x\`), `"\\\"x\\"`},
		{number(0, 0), "0"}, {number(10, 0), "10"}, {number(-10, 0), "-10"},
		{number(5, 1), "0.5"}, {number(-5, 1), "-0.5"}, {number(5, 2), "0.05"}, {number(5, 3), "0.005"}, {number(5, 4), "0.0005"}, {number(5, 5), "0.00005"}, {number(-5, 6), "-0.000005"},
		{number(1001, 1), "100.1"}, {number(1001, 3), "1.001"}, {number(-1000001, 6), "-1.000001"}, {number(12345678, 6), "12.345678"},
		{number(impl.MaxWhole, 0), "1000000000000000"}, {number(-impl.MaxWhole, 0), "-1000000000000000"}, {number(1-impl.MaxWhole, 6), "-999999999.999999"},
	} {
		if got := string(impl.Show(c.x)); got != c.want {
			t.Errorf("%s: %s, want %s", tell(c.x), got, c.want)
		}
	}
	for _, x := range badTerms() {
		if got := impl.Show(x); len(got) != 0 {
			t.Errorf("%s: %s", tell(x), got)
		}
	}
}

func TestUnlikeTermsShowUnlike(t *testing.T) {
	seen := map[string]impl.Term{}
	for _, x := range append(goodTerms(), mixedNumbers(300)...) {
		shown := string(impl.Show(x))
		if y, ok := seen[shown]; ok && !same(x, y) {
			t.Errorf("%s and %s: %s", tell(x), tell(y), shown)
		}
		seen[shown] = x
	}
}

func TestArgumentsAreLeftAlone(t *testing.T) {
	for _, kind := range []int{impl.TmName, impl.TmText} {
		room := []byte("abcdefgh")
		x := impl.Term{Kind: kind, Text: room[:3]}
		shown := impl.Show(x)
		impl.TermOk(x)
		impl.Compare(x, x)
		impl.Calc(impl.NuAdd, x, x)
		for i := range shown {
			shown[i] = '!'
		}
		_ = append(shown, '!')
		if string(room) != "abcdefgh" {
			t.Errorf("kind %d: %q", kind, room)
		}
	}
	if !isZero(impl.Term{Text: []byte{}}) {
		t.Error("an empty text and nil are the same")
	}
}
