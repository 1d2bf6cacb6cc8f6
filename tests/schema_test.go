package tests

import (
	"fmt"
	"slices"
	"strings"
	"testing"

	"loop.example/g00208/impl"
)

func TestRightTables(t *testing.T) {
	for _, x := range rightTables() {
		if !impl.TableOK(x) {
			t.Errorf("%v is right", x)
		}
		if !tableByWords(x) {
			t.Errorf("%v is right by no words", x)
		}
	}
}

// wantNoTable asks all that is asked of a table, with rows that would do otherwise.
func wantNoTable(t *testing.T, x impl.Table) {
	t.Helper()
	what := fmt.Sprintf("%.200v", x)
	if impl.TableOK(x) {
		t.Error(what, "is not right")
	}
	s, got := impl.TableText(x)
	code(t, "TableText of "+what, got, impl.ErrBad)
	list, made := impl.CatalogStep(manyTables(2), impl.CatAct{Kind: impl.CaCreate, Table: x})
	code(t, "CaCreate of "+what, made, impl.ErrBad)
	if s != "" || !sameTables(list, manyTables(2)) {
		t.Error(what, "a code, and", s, list)
	}
	for _, r := range [][]impl.Value{nil, row(num(1)), row(num(1), num(2), num(3)), row(impl.Value{Kind: 9}), make([]impl.Value, impl.MaxList)} {
		wantNoRow(t, what, x, r, impl.ErrBad, 0)
	}
	wantNoRow(t, what, x, make([]impl.Value, impl.MaxList+1), impl.ErrLong, 0)
}

func TestWrongTables(t *testing.T) {
	for _, x := range wrongTables() {
		wantNoTable(t, x)
		if tableByWords(x) {
			t.Errorf("%.200v is right by the words", x)
		}
	}
}

// A text within a table is bounded by the table's rule alone.
func TestLongTextsWithinTables(t *testing.T) {
	for _, size := range []int{impl.MaxName + 1, impl.MaxText, impl.MaxText + 1} {
		long := strings.Repeat("n", size)
		for at := range 3 {
			x := table("t", "a int, b int", 1, index("x", 1))
			*[]*string{&x.Name, &x.Columns[1].Name, &x.Indexes[0].Name}[at] = long
			wantNoTable(t, x)
		}
	}
}

func TestBentTables(t *testing.T) {
	right, wrong := 0, 0
	d := &dice{state: 3}
	for range 4000 {
		x := bendTable(d, rolledTable(d, "cases"))
		want := tableByWords(x)
		if impl.TableOK(x) != want {
			t.Fatalf("%.300v: right is %t", x, want)
		}
		if want {
			right++
		} else {
			wrong++
		}
	}
	if right < 500 || wrong < 500 {
		t.Error("only", right, "right and", wrong, "wrong")
	}
}

// Each word of statements is no name, wherever it stands; with other letters it is one.
func TestStatementWordsAreNoNames(t *testing.T) {
	if len(statementWords) != 28 {
		t.Fatal("words", len(statementWords))
	}
	for _, w := range statementWords {
		for _, name := range []string{w, strings.ToUpper(w), w + "s", "_" + w, w + "_", w + "0", strings.ToUpper(w[:1]) + w[1:]} {
			want := name != w && !slices.Contains(statementWords, name)
			for _, x := range []impl.Table{
				table(name, "a int", 1), table("t", name+" int", 1), table("t", "a int, "+name+" int null", 1), table("t", "a int", 1, index(name, 0)), table("t", "a int", 1, index("x", 0), index(name, 0)),
			} {
				if impl.TableOK(x) != want {
					t.Errorf("%v: right is %t", x, want)
				}
			}
		}
		if !impl.NameOK(w) {
			t.Error(w, "is a name, but not here")
		}
	}
}

func TestCatalogOK(t *testing.T) {
	for _, list := range rightCatalogs() {
		if !impl.CatalogOK(list) {
			t.Errorf("%.300v is right", list)
		}
	}
	for _, list := range append(wrongCatalogs(), manyTables(impl.MaxList+1), make([]impl.Table, impl.MaxList+1)) {
		if impl.CatalogOK(list) {
			t.Errorf("%.300v is not right", list)
		}
	}
	for _, x := range rightTables() {
		if !impl.CatalogOK([]impl.Table{x}) {
			t.Errorf("%v alone is right", x)
		}
	}
	for _, x := range wrongTables() {
		if impl.CatalogOK([]impl.Table{x}) {
			t.Errorf("%.300v alone is not right", x)
		}
	}
}
