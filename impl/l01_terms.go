package impl

import (
	"bytes"
	"cmp"
	"strconv"
	"strings"
)

const MaxText = 30
const MaxName = 12
const MaxScale = 6
const MaxWhole = 1000000000000000

const (
	TmName = iota
	TmBlank
	TmText
	TmNum
)

type Term struct {
	Kind  int
	Text  []byte
	N     int
	Scale int
}

const NuAdd = 0
const NuSub = 1
const NuMul = 2
const NuDiv = 3

const maxBlank = 999999
const maxProduct = 1 << 62

// decimal is n / 10^scale. On the way to a result it may lie outside of what
// a term can hold; term alone decides whether a number has come of it.
type decimal struct {
	n     int
	scale int
}

func TermOk(t Term) bool {
	switch t.Kind {
	case TmName:
		return isName(t.Text) && t.N == 0 && t.Scale == 0
	case TmBlank:
		return len(t.Text) == 0 && isWithin(t.N, 0, maxBlank) && t.Scale == 0
	case TmText:
		return isText(t.Text) && t.N == 0 && t.Scale == 0
	case TmNum:
		return len(t.Text) == 0 && t.decimal().ok()
	}
	return false
}

func Compare(a Term, b Term) int {
	aOk, bOk := TermOk(a), TermOk(b)
	switch {
	case !aOk && !bOk:
		return 0
	case !aOk:
		return -1
	case !bOk:
		return 1
	}
	// What a kind does not use is zero in both, so it never decides.
	return firstUnlike(a, b, Term.compareKind, Term.compareText, Term.compareNumber)
}

func Num(n int, scale int) (Term, bool) {
	if !isWithin(scale, 0, MaxScale) {
		return Term{}, false
	}
	return decimal{n, scale}.term()
}

func Calc(op int, a Term, b Term) (Term, bool) {
	if !isNumber(a) || !isNumber(b) {
		return Term{}, false
	}
	result, fits := a.decimal().calc(op, b.decimal())
	if !fits {
		return Term{}, false
	}
	return result.term()
}

func Show(t Term) []byte {
	if !TermOk(t) {
		return nil
	}
	switch t.Kind {
	case TmName:
		return []byte("<" + string(t.Text) + ">")
	case TmBlank:
		return []byte("_:" + strconv.Itoa(t.N))
	case TmText:
		return quoted(t.Text)
	}
	return []byte(t.decimal().text())
}

// firstUnlike compares by one order after the other, until one tells them apart.
func firstUnlike(a Term, b Term, orders ...func(Term, Term) int) int {
	for _, order := range orders {
		if c := order(a, b); c != 0 {
			return c
		}
	}
	return 0
}

func (t Term) compareKind(u Term) int { return cmp.Compare(t.Kind, u.Kind) }

func (t Term) compareText(u Term) int { return bytes.Compare(t.Text, u.Text) }

func (t Term) compareNumber(u Term) int { return t.decimal().compare(u.decimal()) }

func (t Term) decimal() decimal { return decimal{t.N, t.Scale} }

func (d decimal) ok() bool {
	if !isWithin(d.scale, 0, MaxScale) || !isWithin(d.n, -MaxWhole, MaxWhole) {
		return false
	}
	return d.scale == 0 || d.n%10 != 0
}

// trimmed drops noughts at the end behind the point: each number has one form only.
func (d decimal) trimmed() decimal {
	for d.scale > 0 && d.n%10 == 0 {
		d.n /= 10
		d.scale--
	}
	return d
}

func (d decimal) term() (Term, bool) {
	d = d.trimmed()
	if !d.ok() {
		return Term{}, false
	}
	return Term{Kind: TmNum, N: d.n, Scale: d.scale}, true
}

// compare goes by the whole part first: both brought to one scale might not fit 64 bits.
func (d decimal) compare(e decimal) int {
	dWhole, dRest := d.parts()
	eWhole, eRest := e.parts()
	return cmp.Or(cmp.Compare(dWhole, eWhole), cmp.Compare(dRest, eRest))
}

// parts are what stands ahead of the point and, as MaxScale digits, behind it,
// both with the number's sign: otherwise -0.5 and 0.5 would look alike.
func (d decimal) parts() (int, int) {
	one := tenTo(d.scale)
	return d.n / one, d.n % one * tenTo(MaxScale-d.scale)
}

func (d decimal) calc(op int, e decimal) (decimal, bool) {
	switch op {
	case NuAdd:
		return d.plus(e)
	case NuSub:
		return d.plus(decimal{-e.n, e.scale})
	case NuMul:
		return d.times(e)
	case NuDiv:
		return d.over(e)
	}
	return decimal{}, false
}

func (d decimal) plus(e decimal) (decimal, bool) {
	scale := max(d.scale, e.scale)
	x, xFits := d.raised(scale)
	y, yFits := e.raised(scale)
	// One of both is its own N still, the other at most 2^62: the sum can't leave 64 bits.
	return decimal{x + y, scale}, xFits && yFits
}

func (d decimal) times(e decimal) (decimal, bool) {
	n, fits := product(d.n, e.n)
	return decimal{n, d.scale + e.scale}, fits
}

func (d decimal) over(e decimal) (decimal, bool) {
	x, xFits := d.unsigned().raised(MaxScale)
	y, yFits := e.unsigned().raised(MaxScale)
	if !xFits || !yFits || y == 0 {
		return decimal{}, false
	}
	n, fits := quotient(x, y)
	if (d.n < 0) != (e.n < 0) {
		n = -n
	}
	return decimal{n, MaxScale}, fits
}

func (d decimal) unsigned() decimal { return decimal{size(d.n), d.scale} }

// raised is the N that the number has at a scale not below its own.
func (d decimal) raised(scale int) (int, bool) {
	return product(d.n, tenTo(scale-d.scale))
}

func (d decimal) text() string {
	sign := ""
	if d.n < 0 {
		sign = "-"
	}
	one := tenTo(d.scale)
	whole := sign + strconv.Itoa(size(d.n)/one)
	if d.scale == 0 {
		return whole
	}
	digits := strconv.Itoa(size(d.n) % one)
	return whole + "." + strings.Repeat("0", d.scale-len(digits)) + digits
}

func product(a int, b int) (int, bool) {
	// Asked ahead of multiplying: a product that has wrapped round tells nothing.
	if b != 0 && size(a) > maxProduct/size(b) {
		return 0, false
	}
	return a * b, true
}

// quotient is x / y with MaxScale digits behind the point, told without the point.
// Each of these digits is worked out, even where the rest is 0 by then.
func quotient(x int, y int) (int, bool) {
	n, rest := x/y, x%y
	for range MaxScale {
		if n > MaxWhole || rest > maxProduct/10 {
			return 0, false
		}
		rest *= 10
		n = n*10 + rest/y
		rest %= y
	}
	return n, true
}

func size(n int) int {
	if n < 0 {
		return -n
	}
	return n
}

func tenTo(power int) int {
	n := 1
	for range power {
		n *= 10
	}
	return n
}

func quoted(text []byte) []byte {
	out := []byte{'"'}
	for _, b := range text {
		if b == '"' || b == '\\' {
			out = append(out, '\\')
		}
		out = append(out, b)
	}
	return append(out, '"')
}

func isNumber(t Term) bool { return t.Kind == TmNum && TermOk(t) }

func isName(text []byte) bool {
	if !isWithin(len(text), 1, MaxName) || !isSmallLetter(text[0]) {
		return false
	}
	for _, b := range text {
		if !isSmallLetter(b) && !isDigit(b) {
			return false
		}
	}
	return true
}

func isText(text []byte) bool {
	if len(text) > MaxText {
		return false
	}
	for _, b := range text {
		if b < 32 || b > 126 {
			return false
		}
	}
	return true
}

func isSmallLetter(b byte) bool { return 'a' <= b && b <= 'z' }

func isDigit(b byte) bool { return '0' <= b && b <= '9' }

func isWithin(n int, least int, greatest int) bool { return least <= n && n <= greatest }
