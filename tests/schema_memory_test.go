package tests

import (
	"math"
	"reflect"
	"slices"
	"strings"
	"testing"

	"loop.example/g00208/impl"
)

// someCatActs are right and wrong ones for catalogs of tables a, b and c.
func someCatActs() []impl.CatAct {
	acts := []impl.CatAct{
		{}, {Kind: math.MinInt}, {Kind: math.MaxInt}, create(table("bb", "id int, n text null", 1, index("x", 1), index("y", 1, 0))), create(table("_", "id int", 1)), create(table("zz", "id int", 1, index("x", 0))),
		create(table("a", "id int", 1)), create(table("bb", "id int", 2)), create(impl.Table{}), drop("a"), drop("b"), drop("c"), drop("none"),
		addIndex("a", index("new", 0)), addIndex("b", index("new", 1, 0)), addIndex("c", index("x", 0)), addIndex("c", index("new")), dropIndex("b", "x"), dropIndex("c", "x"), dropIndex("c", "y"), dropIndex("a", "x"),
		addColumn("a", col("new int"), num(1)), addColumn("b", col("new text null"), impl.Value{}), addColumn("c", col("new int"), text("a")), addColumn("a", col("id int"), num(1)), addColumn("a", impl.Column{}, num(1)),
	}
	d := &dice{state: 41}
	for range 30 {
		acts = append(acts, rolledCatAct(d))
	}
	return acts
}

// someTableRows are rows of a table, and such as are none.
func someTableRows(x impl.Table) [][]impl.Value {
	rows := [][]impl.Value{nil, row(num(1)), row(num(1), text("a")), row(impl.Value{Kind: 9}), make([]impl.Value, impl.MaxCells+1), make([]impl.Value, impl.MaxList+1)}
	if tableByWords(x) {
		d := &dice{state: 42}
		rows = append(rows, rolledRow(d, x), rolledRow(d, x))
	}
	return rows
}

// askedOfTables are all calls of chapter 10 with some arguments.
func askedOfTables() []func() []any {
	var calls []func() []any
	ask := func(f func() []any) { calls = append(calls, f) }
	for _, x := range append(rightTables(), wrongTables()...) {
		ask(func() []any { return []any{impl.TableOK(x)} })
		ask(func() []any { s, c := impl.TableText(x); return []any{s, c} })
		for i, r := range someTableRows(x) {
			ask(func() []any { c, at := impl.CheckRow(x, r); return []any{c, at} })
			ask(func() []any { key, c := impl.RowKey(x, r); return []any{key, c} })
			ask(func() []any { entry, c := impl.IndexKey(x, i%3-1, r); return []any{entry, c} })
			ask(func() []any { wide, c := impl.WidenRow(x, r, num(i)); return []any{wide, c} })
		}
	}
	for _, list := range append(append(rightCatalogs(), wrongCatalogs()[:20]...), manyTables(impl.MaxList+1)) {
		ask(func() []any { return []any{impl.CatalogOK(list)} })
		for _, a := range someCatActs() {
			ask(func() []any { next, c := impl.CatalogStep(list, a); return []any{next, c} })
		}
	}
	for _, c := range tableTexts {
		for _, s := range []string{c.text, c.text + " ", c.text[1:], strings.Repeat(c.text, impl.MaxText)[:impl.MaxText+1]} {
			ask(func() []any { x, c := impl.ReadTable(s); return []any{x, c} })
		}
	}
	return calls
}

func TestTablesAndRowsStay(t *testing.T) {
	for _, model := range append(rightTables(), wrongTables()...) {
		x := roomyTable(model)
		before := cloneTable(behindTable(x))
		for _, values := range someTableRows(x) {
			r := roomy(values, num(77))
			kept := slices.Clone(r[:cap(r)])
			impl.CheckRow(x, r)
			impl.RowKey(x, r)
			impl.WidenRow(x, r, num(1))
			for i := range 6 {
				impl.IndexKey(x, i-1, r)
			}
			if !slices.Equal(r[:cap(r)], kept) {
				t.Fatalf("%.200v was changed", kept)
			}
		}
		impl.TableOK(x)
		impl.TableText(x)
		if !reflect.DeepEqual(cloneTable(behindTable(x)), before) {
			t.Fatalf("%.200v was changed", before)
		}
	}
}

func TestCatalogsAndActsStay(t *testing.T) {
	for _, model := range append(rightCatalogs(), wrongCatalogs()[:20]...) {
		list := roomyTables(model)
		before := cloneTables(behindTables(list))
		for _, a := range someCatActs() {
			made, columns := cloneTable(behindTable(a.Table)), slices.Clone(a.Index.Columns[:cap(a.Index.Columns)])
			impl.CatalogOK(list)
			impl.CatalogStep(list, a)
			if !sameTables(behindTables(list), before) {
				t.Fatalf("%v changed %.200v", a, before)
			}
			if !sameTable(behindTable(a.Table), made) || !slices.Equal(a.Index.Columns[:cap(a.Index.Columns)], columns) {
				t.Fatalf("%v was changed", a)
			}
		}
	}
}

// What an act makes stays if the catalog or the act is written over, and these stay if it is.
func TestCatalogsAreNewMemory(t *testing.T) {
	for _, model := range rightCatalogs() {
		for k := range someCatActs() {
			list, a := roomyTables(model), someCatActs()[k]
			before, act := cloneTables(behindTables(list)), cloneTable(behindTable(a.Table))
			columns := slices.Clone(a.Index.Columns[:cap(a.Index.Columns)])
			next, _ := impl.CatalogStep(list, a)
			want := cloneTables(next)
			scribbleTables(next)
			if !sameTables(behindTables(list), before) {
				t.Fatalf("%v: the next catalog shares memory with %.200v", a, before)
			}
			if !sameTable(behindTable(a.Table), act) || !slices.Equal(a.Index.Columns[:cap(a.Index.Columns)], columns) {
				t.Fatalf("%v: the next catalog shares memory with the act", a)
			}
			next, _ = impl.CatalogStep(list, a)
			scribbleTables(list)
			scribbleTable(a.Table)
			scribbleList(a.Index.Columns[:cap(a.Index.Columns)], -9)
			if !sameTables(next, want) {
				t.Fatalf("%v: the next catalog is changed with its arguments", someCatActs()[k])
			}
		}
	}
}

// eachList calls do with what writes over one list of a catalog, and what puts it right again.
func eachList(list []impl.Table, want []impl.Table, do func(what string, scribble, mend func())) {
	for i := range list {
		x := &list[i]
		do("columns", func() { scribbleList(x.Columns[:cap(x.Columns)], col("scribbled bool")) }, func() { x.Columns = want[i].Columns })
		for k := range x.Indexes {
			columns := x.Indexes[k].Columns
			do("index columns", func() { scribbleList(columns[:cap(columns)], -9) }, func() { x.Indexes[k].Columns = want[i].Indexes[k].Columns })
		}
		do("indexes", func() { scribbleList(x.Indexes[:cap(x.Indexes)], index("scribbled", -9)) }, func() { x.Indexes = want[i].Indexes })
	}
}

// Each list of a catalog is written over by itself, with what stands behind its end; the others stay.
func TestListsOfCatalogsShareNothing(t *testing.T) {
	for _, model := range rightCatalogs() {
		for _, a := range someCatActs() {
			next, _ := impl.CatalogStep(model, a)
			want := cloneTables(next)
			eachList(next, want, func(what string, scribble, mend func()) {
				scribble()
				mend()
				if !sameTables(next, want) {
					t.Fatalf("%v: %s share memory: %.300v", a, what, next)
				}
			})
		}
	}
	for _, c := range tableTexts {
		x, _ := impl.ReadTable(c.text)
		list := []impl.Table{x}
		eachList(list, []impl.Table{c.table}, func(what string, scribble, mend func()) {
			scribble()
			mend()
			if !sameTable(list[0], c.table) {
				t.Fatalf("%s: %s share memory: %v", c.text, what, list)
			}
		})
	}
}

func TestTablesThatAreReadAreNewMemory(t *testing.T) {
	for _, c := range tableTexts {
		first, _ := impl.ReadTable(c.text)
		scribbleTable(first)
		if again, got := impl.ReadTable(c.text); got != impl.OK || !sameTable(again, c.table) {
			t.Errorf("%q hangs on the answer ahead: %v %d", c.text, again, got)
		}
	}
}

func TestKeysAndWideRowsAreNewMemory(t *testing.T) {
	x := table("t", "a int, b text, c bytes null", 2, index("x", 2, 1), index("y", 0))
	want := row(num(1), text("b"), raw("c"))
	r := slices.Clone(want)
	key, _ := impl.RowKey(x, r)
	entry, _ := impl.IndexKey(x, 0, r)
	wide, _ := impl.WidenRow(x, r, num(7))
	firstKey, firstEntry := string(key), string(entry)
	scribbleList(r, num(-9))
	scribbleTable(x)
	if string(key) != firstKey || string(entry) != firstEntry || !slices.Equal(wide, append(slices.Clone(want), num(7))) {
		t.Error("an answer is of its arguments", key, entry, wide)
	}
	x = table("t", "a int, b text, c bytes null", 2, index("x", 2, 1), index("y", 0))
	r = roomy(want, num(77))
	wide, _ = impl.WidenRow(x, r, num(7))
	scribbleList(wide[:cap(wide)], num(-9))
	scribbleList(key[:cap(key)], 9)
	scribbleList(entry[:cap(entry)], 9)
	key, _ = impl.RowKey(x, r)
	entry, _ = impl.IndexKey(x, 0, r)
	if !slices.Equal(r[:cap(r)], roomy(want, num(77))[:cap(r)]) || string(key) != firstKey || string(entry) != firstEntry {
		t.Error("an argument is of an answer", r, key, entry)
	}
}

// An empty list and nil are the same.
func TestEmptyListsOfTables(t *testing.T) {
	for _, none := range [][]impl.Index{nil, {}} {
		x := impl.Table{Name: "t", Columns: []impl.Column{col("a int")}, Key: 1, Indexes: none}
		s, got := impl.TableText(x)
		if !impl.TableOK(x) || s != "t(a int) key 1" || got != impl.OK {
			t.Error("without indexes", s, got)
		}
	}
	for _, none := range [][]impl.Table{nil, {}} {
		if !impl.CatalogOK(none) {
			t.Error("no tables are right")
		}
		if next, got := impl.CatalogStep(none, create(table("t", "a int", 1))); got != impl.OK || len(next) != 1 {
			t.Error("no tables and one more", next, got)
		}
		wantRefused(t, none, drop("t"), impl.ErrName)
		wantRefused(t, none, impl.CatAct{}, impl.ErrForm)
	}
	for _, none := range [][]impl.Column{nil, {}} {
		if impl.TableOK(impl.Table{Name: "t", Columns: none}) || impl.TableOK(impl.Table{Name: "t", Columns: none, Key: 1}) {
			t.Error("a table without columns is right")
		}
	}
	for _, none := range [][]int{nil, {}} {
		if impl.TableOK(impl.Table{Name: "t", Columns: []impl.Column{col("a int")}, Key: 1, Indexes: []impl.Index{{Name: "x", Columns: none}}}) {
			t.Error("an index without columns is right")
		}
	}
}
