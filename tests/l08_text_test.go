package tests

import (
	"bytes"
	"fmt"
	"reflect"
	"strings"
	"testing"

	"loop.example/g00347/impl"
)

// tableIn has these variables, and rows as rowsIn reads them.
func tableIn(names string, rows string) impl.Table {
	return impl.Table{Vars: vars(strings.Fields(names)...), Rows: rowsIn(rows)}
}

func checkText(t *testing.T, x impl.Table, want string) {
	t.Helper()
	if got := string(impl.TableText(x)); got != want {
		t.Errorf("%s: %q, want %q", tellTable(x, true), got, want)
	}
}

func checkNoText(t *testing.T, what string, x impl.Table) {
	t.Helper()
	if got := impl.TableText(x); len(got) != 0 {
		t.Errorf("%s: %q", what, got)
	}
}

func TestTableText(t *testing.T) {
	checkText(t, tableIn("x y", "1 2; 3 4"), "?x ?y \n1 2 \n3 4 \n")
	checkText(t, tableIn("x", "1"), "?x \n1 \n")
	checkText(t, tableIn("x y", ""), "?x ?y \n")
	checkText(t, tableIn("long12345678 a", "- -; - 1; 1 -"), "?long12345678 ?a \n- - \n- 1 \n1 - \n")
	// Its rows need be in no order, and may be alike; nor need the variables be in one.
	checkText(t, tableIn("b a", "3 4; 1 2; 3 4; - 9"), "?b ?a \n3 4 \n1 2 \n3 4 \n- 9 \n")
	checkText(t, tableIn("x", `"-"; -; ""; "1"; 1; <a>; "<a>"; _:7; "_:7"`), "?x \n\"-\" \n- \n\"\" \n\"1\" \n1 \n<a> \n\"<a>\" \n_:7 \n\"_:7\" \n")
}

func TestTextOfTablesWithoutVariables(t *testing.T) {
	checkText(t, impl.Table{}, "\n")
	checkText(t, impl.Table{Vars: [][]byte{}, Rows: []impl.Sol{}}, "\n")
	checkText(t, tableIn("", "()"), "\n\n")
	checkText(t, tableIn("", "(); (); ()"), "\n\n\n\n")
	checkNoText(t, "a cell without a variable", tableIn("", "-"))
	checkNoText(t, "a term without a variable", tableIn("", "(); 1"))
}

func TestTextOfEachTerm(t *testing.T) {
	want := "?v ?w \n"
	x := impl.Table{Vars: vars("v", "w")}
	for _, own := range goodTerms() {
		x.Rows = append(x.Rows, sol(own, nil), sol(nil, own))
		want += string(impl.Show(own)) + " - \n- " + string(impl.Show(own)) + " \n"
	}
	checkText(t, x, want)
	checkText(t, impl.Table{Vars: vars("v"), Rows: []impl.Sol{sol(text(`a "b" \`)), sol(text(" ")), sol(number(-5, 1)), sol(number(5, 6))}}, "?v \n\"a \\\"b\\\" \\\\\" \n\" \" \n-0.5 \n0.000005 \n")
	checkText(t, impl.Table{Vars: vars("v"), Rows: []impl.Sol{{Cells: []impl.Cell{{T: impl.Term{Text: []byte{}}}}}}}, "?v \n- \n")
}

func TestTextRefusesVariables(t *testing.T) {
	for _, v := range badVars() {
		checkNoText(t, fmt.Sprintf("%.20q", v), impl.Table{Vars: vars(v)})
		checkNoText(t, fmt.Sprintf("%.20q and a row", v), impl.Table{Vars: vars(v), Rows: rowsIn("1")})
		checkNoText(t, fmt.Sprintf("%.20q behind another", v), impl.Table{Vars: vars("a", v), Rows: rowsIn("1 2")})
	}
	checkNoText(t, "two alike", tableIn("a a", "1 2"))
	checkNoText(t, "two alike, no rows", tableIn("a a", ""))
	checkNoText(t, "two alike, apart", tableIn("a b c a", ""))
	checkText(t, tableIn("a aa aaa", ""), "?a ?aa ?aaa \n")
	var list []string
	head := ""
	for i := range 12 {
		x := impl.Table{Vars: vars(list...), Rows: []impl.Sol{{Cells: make([]impl.Cell, i)}}}
		if i <= 8 {
			checkText(t, x, head+"\n"+strings.Repeat("- ", i)+"\n")
		} else {
			checkNoText(t, fmt.Sprint(i, " variables"), x)
		}
		list, head = append(list, fmt.Sprint("v", i)), head+fmt.Sprint("?v", i, " ")
	}
	checkNoText(t, "very many", impl.Table{Vars: vars(strings.Fields(strings.Repeat("a ", 5000))...)})
}

func TestTextOfManyRows(t *testing.T) {
	for _, c := range []struct {
		count int
		want  bool
	}{{0, true}, {1, true}, {299, true}, {300, true}, {301, false}, {302, false}, {5000, false}} {
		x := impl.Table{Vars: vars("x", "y"), Rows: numbered(c.count)}
		lines := strings.Count(string(impl.TableText(x)), "\n")
		if c.want && lines != c.count+1 || !c.want && lines != 0 {
			t.Errorf("%d rows: %d lines", c.count, lines)
		}
		empty := impl.TableText(impl.Table{Rows: make([]impl.Sol, c.count)})
		if c.want && string(empty) != strings.Repeat("\n", c.count+1) || !c.want && len(empty) != 0 {
			t.Errorf("%d rows without cells: %q", c.count, empty)
		}
	}
}

func TestTextRefusesRows(t *testing.T) {
	five := number(5, 0)
	bad := map[string]impl.Sol{
		"no cells": {}, "one too few": sol(five), "one too many": sol(five, five, five), "an empty one too many": sol(five, five, nil), "many": {Cells: make([]impl.Cell, 1000)},
		"Has without a term": {Cells: []impl.Cell{{Has: true}, {}}}, "Has without a term, behind": {Cells: []impl.Cell{{}, {Has: true}}},
	}
	for _, x := range badTerms() {
		bad["Has and "+tell(x)] = impl.Sol{Cells: []impl.Cell{{Has: true, T: five}, {Has: true, T: x}}}
		if !isZero(x) {
			bad["without Has, but "+tell(x)] = impl.Sol{Cells: []impl.Cell{{T: x}, {}}}
		}
	}
	for _, x := range goodTerms() {
		bad["without Has, but the good "+tell(x)] = impl.Sol{Cells: []impl.Cell{{}, {T: x}}}
	}
	for what, s := range bad {
		for at := range 3 {
			rows := rowsIn("1 2; - -; 5 6")
			rows[at] = s
			checkNoText(t, fmt.Sprint(what, " at ", at), impl.Table{Vars: vars("x", "y"), Rows: rows})
		}
	}
}

// Each table that Finish tells has a text, with a line for each row.
func TestTextsOfTables(t *testing.T) {
	m := tableMaker(110)
	numbers := mixedNumbers(100)
	for range 3000 {
		q := m.tableQuery()
		x, ok := impl.Finish(q, m.tableSols(impl.Vars(q), numbers))
		var want strings.Builder
		for _, v := range x.Vars {
			want.WriteString("?" + string(v) + " ")
		}
		want.WriteString("\n")
		for _, s := range x.Rows {
			for _, c := range s.Cells {
				want.WriteString(tellCell(c) + " ")
			}
			want.WriteString("\n")
		}
		if got := string(impl.TableText(x)); !ok || got != want.String() {
			t.Fatalf("%v: %v, %q, want %q", q, ok, got, want.String())
		}
	}
}

func TestTableTextLeavesItsArgumentAlone(t *testing.T) {
	m := tableMaker(111)
	for range 500 {
		q := m.tableQuery()
		made, _ := impl.Finish(q, m.tableSols(impl.Vars(q), goodTerms()))
		given := withSpare(reflect.ValueOf(made)).Interface().(impl.Table)
		before := wholly(reflect.ValueOf(given))
		got, again := impl.TableText(given), impl.TableText(given)
		if !bytes.Equal(got, impl.TableText(made)) || !bytes.Equal(got, again) {
			t.Fatalf("%s: %q: what lies behind its lists plays a part", tellTable(made, true), got)
		}
		if wholly(reflect.ValueOf(given)) != before {
			t.Fatalf("%s is not what it was", tellTable(made, true))
		}
		checkOwnMemory(t, given, got, again)
	}
}
