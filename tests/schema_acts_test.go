package tests

import (
	"fmt"
	"math"
	"slices"
	"strings"
	"testing"

	"loop.example/g00208/impl"
)

func create(t impl.Table) impl.CatAct { return impl.CatAct{Kind: impl.CaCreate, Table: t} }

func drop(name string) impl.CatAct { return impl.CatAct{Kind: impl.CaDrop, Name: name} }

func addIndex(name string, x impl.Index) impl.CatAct {
	return impl.CatAct{Kind: impl.CaIndex, Name: name, Index: x}
}

func dropIndex(name, of string) impl.CatAct {
	return impl.CatAct{Kind: impl.CaDropIndex, Name: name, Index: impl.Index{Name: of}}
}

func addColumn(name string, c impl.Column, v impl.Value) impl.CatAct {
	return impl.CatAct{Kind: impl.CaColumn, Name: name, Column: c, Value: v}
}

// showCatalog has a line a table.
func showCatalog(list []impl.Table) string {
	var lines []string
	for _, t := range list {
		lines = append(lines, textByWords(t))
	}
	return strings.Join(lines, "\n")
}

func catalog(t *testing.T, texts ...string) []impl.Table {
	t.Helper()
	var list []impl.Table
	for _, s := range texts {
		x, ok := readByWords(s)
		if !ok {
			t.Fatal(s, "is no table's text")
		}
		list = append(list, roomyTable(x))
	}
	return roomy(list, impl.Table{Name: "behind"})
}

func TestActsOnCatalogs(t *testing.T) {
	const b, d = "b(id int, n text null) key 1 index x(n) index y(id, n)", "d(id int) key 1"
	with := func(end string) string { return b + end + "\n" + d }
	for _, c := range []struct {
		act  impl.CatAct
		want string
	}{
		{create(table("a", "id int", 1)), "a(id int) key 1\n" + b + "\n" + d},
		{create(table("c", "id int, b bytes null", 1, index("x", 1))), b + "\nc(id int, b bytes null) key 1 index x(b)\n" + d},
		{create(table("e", "id text, b bool", 2)), b + "\n" + d + "\ne(id text, b bool) key 2"},
		{create(table("B", "id int", 1)), "B(id int) key 1\n" + b + "\n" + d}, {create(table("bb", "id int", 1)), b + "\nbb(id int) key 1\n" + d},
		{drop("b"), d}, {drop("d"), b},
		{addIndex("b", index("a", 0)), with(" index a(id)")}, {addIndex("b", index("z", 1)), with(" index z(n)")}, {addIndex("b", index("d", 1, 0)), with(" index d(n, id)")},
		{addIndex("d", index("x", 0)), b + "\n" + d + " index x(id)"},
		{dropIndex("b", "x"), "b(id int, n text null) key 1 index y(id, n)\n" + d}, {dropIndex("b", "y"), "b(id int, n text null) key 1 index x(n)\n" + d},
		{addColumn("d", col("a bool"), flag(1)), b + "\nd(id int, a bool) key 1"}, {addColumn("d", col("x bytes null"), raw("a")), b + "\nd(id int, x bytes null) key 1"},
		{addColumn("d", col("x text null"), impl.Value{}), b + "\nd(id int, x text null) key 1"}, {addColumn("d", col("n int"), num(math.MinInt)), b + "\nd(id int, n int) key 1"},
		{addColumn("b", col("a int null"), num(3)), "b(id int, n text null, a int null) key 1 index x(n) index y(id, n)\n" + d}, {addColumn("b", col("x int null"), impl.Value{}), "b(id int, n text null, x int null) key 1 index x(n) index y(id, n)\n" + d},
	} {
		list := catalog(t, b, d)
		next, got := impl.CatalogStep(list, c.act)
		if got != impl.OK || !impl.CatalogOK(next) || showCatalog(next) != c.want {
			t.Errorf("%v: %d\n%s\nwant\n%s", c.act, got, showCatalog(next), c.want)
		}
		if !sameTables(list, catalog(t, b, d)) {
			t.Errorf("%v changed the catalog that it was handed", c.act)
		}
	}
}

// What an act has no use for may be anything.
func TestActsLookAtTheirOwnAlone(t *testing.T) {
	wrong := impl.CatAct{Name: "no name", Table: table("select", "a int, a int", 9), Index: index("", -1), Column: impl.Column{Name: "9", Type: 9}, Value: impl.Value{Kind: 9}}
	list := catalog(t, "b(id int) key 1 index x(id)")
	for _, c := range []struct {
		act  impl.CatAct
		want string
	}{
		{create(table("a", "id int", 1)), "a(id int) key 1\nb(id int) key 1 index x(id)"}, {drop("b"), ""}, {addIndex("b", index("y", 0)), "b(id int) key 1 index x(id) index y(id)"},
		{dropIndex("b", "x"), "b(id int) key 1"}, {addColumn("b", col("n text"), text("")), "b(id int, n text) key 1 index x(id)"},
	} {
		a := wrong
		a.Kind = c.act.Kind
		switch a.Kind {
		case impl.CaCreate:
			a.Table = c.act.Table
		case impl.CaIndex:
			a.Name, a.Index = c.act.Name, c.act.Index
		case impl.CaDropIndex:
			a.Name, a.Index.Name = c.act.Name, c.act.Index.Name
		case impl.CaColumn:
			a.Name, a.Column, a.Value = c.act.Name, c.act.Column, c.act.Value
		case impl.CaDrop:
			a.Name = c.act.Name
		}
		if next, got := impl.CatalogStep(list, a); got != impl.OK || showCatalog(next) != c.want {
			t.Errorf("%v: %d %s", a, got, showCatalog(next))
		}
	}
}

// wantRefused asks for a code and the catalog as it was.
func wantRefused(t *testing.T, list []impl.Table, a impl.CatAct, want int) {
	t.Helper()
	before := cloneTables(list)
	next, got := impl.CatalogStep(list, a)
	code(t, fmt.Sprintf("%.300v", a), got, want)
	if !sameTables(next, before) {
		t.Errorf("%.300v: code %d and %.300v, not the catalog as it was", a, got, next)
	}
}

func TestActsOfOtherKinds(t *testing.T) {
	for _, list := range rightCatalogs() {
		for _, kind := range []int{math.MinInt, -1, 0, 6, 7, 256 + 1, math.MaxInt} {
			wantRefused(t, list, impl.CatAct{Kind: kind}, impl.ErrForm)
			wantRefused(t, list, impl.CatAct{Kind: kind, Name: "a", Table: table("zz", "id int", 1), Index: index("new", 0), Column: col("new int"), Value: num(1)}, impl.ErrForm)
		}
	}
}

func TestActsOfNoTable(t *testing.T) {
	missing := append(wrongNamesHere(), "aaa", "Cases", "zzzz", "t00006", strings.Repeat("n", impl.MaxText+1))
	for _, list := range rightCatalogs() {
		for _, name := range missing {
			for _, a := range []impl.CatAct{
				drop(name), addIndex(name, index("new", 0)), addIndex(name, index("", -1)), dropIndex(name, "x"), dropIndex(name, "none"),
				addColumn(name, col("new int"), num(1)), addColumn(name, impl.Column{Name: "9", Type: 9}, impl.Value{Kind: 9}),
			} {
				wantRefused(t, list, a, impl.ErrName)
			}
		}
	}
}

func TestWrongCatalogsBehindActs(t *testing.T) {
	acts := []impl.CatAct{{}, {Kind: 9}, create(table("zz", "id int", 1)), create(impl.Table{}), drop("a"), drop("none"), addIndex("a", index("new", 0)), dropIndex("b", "x"), addColumn("a", col("new int"), num(1))}
	for _, a := range acts {
		for _, list := range wrongCatalogs() {
			if next, got := impl.CatalogStep(list, a); got != impl.ErrBad || len(next) != 0 {
				t.Errorf("%v of %.200v: %d %.200v", a, list, got, next)
			}
		}
		for _, list := range [][]impl.Table{manyTables(impl.MaxList + 1), make([]impl.Table, impl.MaxList+1)} {
			next, got := impl.CatalogStep(list, a)
			code(t, fmt.Sprintf("%v of a list that is too long", a), got, impl.ErrLong)
			if len(next) != 0 {
				t.Errorf("ErrLong, and %.200v", next)
			}
		}
	}
}

// Where several faults meet, the first in the order of the document counts.
func TestOrderOfFaultsOfActs(t *testing.T) {
	full := manyTables(impl.MaxTables)
	wide := []impl.Table{tableOf("t", manyColumns(impl.MaxCells, 1), 1, manyIndexes(impl.MaxIndexes)...)}
	three := []impl.Table{table("t", "a int, b int, c int null", 1, index("x", 0))}
	bad, wrong := table("t00000", "a int", 2), impl.Value{Kind: 9}
	for _, c := range []struct {
		list []impl.Table
		act  impl.CatAct
		want int
	}{
		{full, create(bad), impl.ErrBad}, {full, create(table("zz", "a int null", 1)), impl.ErrBad}, {full, create(table("t00000", "a int", 1)), impl.ErrTwice}, {full, create(table("t00005", "a int", 1)), impl.ErrTwice}, {full, create(full[2]), impl.ErrTwice},
		{full, create(table("zz", "a int", 1)), impl.ErrFull}, {full, create(table("a", "a int", 1)), impl.ErrFull}, {full[:5], create(bad), impl.ErrBad}, {full[:5], create(table("t00003", "a int", 1)), impl.ErrTwice},
		{wide, addIndex("t", index("x0", 0)), impl.ErrTwice}, {wide, addIndex("t", index("x3")), impl.ErrTwice}, {wide, addIndex("t", index("x1", 9, 9)), impl.ErrTwice},
		{wide, addIndex("t", index("new")), impl.ErrBad}, {wide, addIndex("t", index("new", 8)), impl.ErrBad}, {wide, addIndex("t", index("select", 0)), impl.ErrBad}, {wide, addIndex("t", index("new", 0)), impl.ErrFull}, {wide, addIndex("t", index("new", 7, 0)), impl.ErrFull},
		{three, dropIndex("t", "X"), impl.ErrNone}, {three, dropIndex("t", ""), impl.ErrNone}, {three, dropIndex("t", "t"), impl.ErrNone}, {three, dropIndex("t", "a"), impl.ErrNone}, {three, dropIndex("t", strings.Repeat("x", impl.MaxText+1)), impl.ErrNone}, {full, dropIndex("t00000", "x"), impl.ErrNone},
		{wide, addColumn("t", col("c0 bool"), flag(1)), impl.ErrTwice}, {wide, addColumn("t", impl.Column{Name: "c7", Type: 9}, wrong), impl.ErrTwice}, {wide, addColumn("t", col("new int"), num(1)), impl.ErrFull}, {wide, addColumn("t", col("select int"), num(1)), impl.ErrFull}, {wide, addColumn("t", col("new int"), wrong), impl.ErrFull}, {wide, addColumn("t", impl.Column{}, wrong), impl.ErrFull},
		{three, addColumn("t", col("a int"), num(1)), impl.ErrTwice}, {three, addColumn("t", col("c text null"), impl.Value{}), impl.ErrTwice}, {three, addColumn("t", impl.Column{Name: "b", Type: -1}, wrong), impl.ErrTwice},
		{three, addColumn("t", col("select int"), num(1)), impl.ErrBad}, {three, addColumn("t", col("null int"), wrong), impl.ErrBad}, {three, addColumn("t", impl.Column{Name: "new", Type: 5}, wrong), impl.ErrBad}, {three, addColumn("t", impl.Column{Name: "new", Null: true}, impl.Value{}), impl.ErrBad},
		{three, addColumn("t", col("new int"), wrong), impl.ErrType}, {three, addColumn("t", col("new int"), impl.Value{}), impl.ErrType}, {three, addColumn("t", col("new int"), flag(1)), impl.ErrType}, {three, addColumn("t", col("new int null"), text("")), impl.ErrType}, {three, addColumn("t", col("new text"), raw("")), impl.ErrType},
		{three, impl.CatAct{Kind: 6, Name: "none"}, impl.ErrForm}, {three, impl.CatAct{Kind: 0, Name: "t"}, impl.ErrForm},
	} {
		wantRefused(t, c.list, c.act, c.want)
	}
}

func TestIndexesThatAreNotRight(t *testing.T) {
	list := []impl.Table{table("t", "a int, b int, c int null", 2, index("first", 0))}
	for _, x := range wrongIndexes() {
		wantRefused(t, list, addIndex("t", x), impl.ErrBad)
	}
	for _, name := range append(wrongNamesHere(), strings.Repeat("n", impl.MaxText+1)) {
		wantRefused(t, list, addIndex("t", index(name, 1)), impl.ErrBad)
		wantRefused(t, list, dropIndex("t", name), impl.ErrNone)
	}
}

func TestColumnsThatAreNotRight(t *testing.T) {
	list := []impl.Table{table("t", "a int, b int", 2, index("first", 0))}
	for _, name := range append(wrongNamesHere(), strings.Repeat("n", impl.MaxText+1)) {
		wantRefused(t, list, addColumn("t", impl.Column{Name: name, Type: impl.VaInt}, num(1)), impl.ErrBad)
	}
	for _, kind := range []int{math.MinInt, -1, impl.VaNull, impl.VaBytes + 1, 256 + 2, math.MaxInt} {
		for _, v := range []impl.Value{{}, num(1), {Kind: kind}} {
			wantRefused(t, list, addColumn("t", impl.Column{Name: "new", Type: kind, Null: true}, v), impl.ErrBad)
		}
	}
}

// Each value for each column: it is of it if it is right, and of the type, or null where that may be.
func TestValuesOfNewColumns(t *testing.T) {
	list := []impl.Table{table("t", "a int", 1)}
	for kind := impl.VaBool; kind <= impl.VaBytes; kind++ {
		for _, null := range []bool{false, true} {
			c := impl.Column{Name: "new", Type: kind, Null: null}
			for _, v := range risingValues() {
				if v.Kind != kind && !(null && v.Kind == impl.VaNull) {
					wantRefused(t, list, addColumn("t", c, v), impl.ErrType)
				} else if next, got := impl.CatalogStep(list, addColumn("t", c, v)); got != impl.OK || next[0].Columns[1] != c {
					t.Errorf("%v with %v: %d %v", c, v, got, next)
				}
			}
			for _, v := range wrongValues() {
				wantRefused(t, list, addColumn("t", c, v), impl.ErrType)
			}
		}
	}
}

// catalogByWords does an act by the document's words.
func catalogByWords(list []impl.Table, a impl.CatAct) ([]impl.Table, int) {
	next := cloneTables(list)
	at := slices.IndexFunc(list, func(t impl.Table) bool { return t.Name == a.Name })
	switch {
	case a.Kind < 1 || a.Kind > 5:
		return next, impl.ErrForm
	case a.Kind == impl.CaCreate:
		return createdByWords(next, a.Table)
	case at == -1:
		return next, impl.ErrName
	case a.Kind == impl.CaDrop:
		return append(next[:at:at], next[at+1:]...), impl.OK
	case a.Kind == impl.CaColumn:
		return next, columnByWords(&next[at], a)
	}
	t := &next[at]
	there := slices.IndexFunc(t.Indexes, func(x impl.Index) bool { return x.Name == a.Index.Name })
	switch {
	case a.Kind == impl.CaDropIndex && there == -1:
		return next, impl.ErrNone
	case a.Kind == impl.CaDropIndex:
		t.Indexes = append(t.Indexes[:there:there], t.Indexes[there+1:]...)
	case there != -1:
		return next, impl.ErrTwice
	case !rightIndex(a.Index, len(t.Columns)):
		return next, impl.ErrBad
	case len(t.Indexes) >= 4:
		return next, impl.ErrFull
	default:
		t.Indexes = append(t.Indexes, a.Index)
	}
	return next, impl.OK
}

func createdByWords(next []impl.Table, t impl.Table) ([]impl.Table, int) {
	if !tableByWords(t) {
		return next, impl.ErrBad
	}
	if slices.ContainsFunc(next, func(x impl.Table) bool { return x.Name == t.Name }) {
		return next, impl.ErrTwice
	}
	if len(next) >= 6 {
		return next, impl.ErrFull
	}
	next = append(next, t)
	slices.SortFunc(next, func(a, b impl.Table) int { return strings.Compare(a.Name, b.Name) })
	return next, impl.OK
}

func columnByWords(t *impl.Table, a impl.CatAct) int {
	for _, c := range t.Columns {
		if c.Name == a.Column.Name {
			return impl.ErrTwice
		}
	}
	c, v := a.Column, a.Value
	switch {
	case len(t.Columns) >= 8:
		return impl.ErrFull
	case !rightName(c.Name) || c.Type < 1 || c.Type > 4:
		return impl.ErrBad
	case !impl.ValueOK(v) || v.Kind != c.Type && v.Kind != 0 || v.Kind == 0 && !c.Null:
		return impl.ErrType
	}
	t.Columns = append(t.Columns, c)
	return impl.OK
}

// rolledCatAct is often right, and often of what is there already or is not.
func rolledCatAct(d *dice) impl.CatAct {
	tables := []string{"a", "b", "c", "cases", "notes", "_", "Z", "z9", "select"}
	some := []string{"x", "y", "z", "w", "v", "id", "n", "m", "k", "by", ""}
	name := func(list []string) string { return list[d.below(len(list))] }
	values := append(risingValues(), wrongValues()...)
	a := impl.CatAct{Kind: []int{1, 1, 2, 3, 3, 3, 4, 5, 5, 5, 1, 3, 5, 6, 0}[d.below(15)], Name: name(tables)}
	a.Table = rolledTable(d, name(tables))
	if d.below(5) == 0 {
		a.Table = bendTable(d, a.Table)
	}
	a.Index = rolledIndex(d, name(some), 1+d.below(4))
	if d.below(6) == 0 {
		a.Index.Columns = append(a.Index.Columns, d.below(10)-1)
	}
	a.Column = impl.Column{Name: name(some), Type: 1 + d.below(4), Null: d.below(2) == 0}
	if d.below(8) == 0 {
		a.Column.Type = d.below(7) - 1
	}
	if d.below(3) > 0 {
		a.Value = values[d.below(len(values))]
	}
	if d.below(3) == 0 {
		a.Value = []impl.Value{{}, flag(1), num(7), text("a"), raw("b")}[1+max(0, min(a.Column.Type, 4)-1)]
	}
	return a
}

// A catalog that is right stays right; with a code it stays as it was.
func TestCatalogsStayRight(t *testing.T) {
	seen := map[[2]int]int{}
	for seed := range 40 {
		d := &dice{state: uint64(seed)}
		var list []impl.Table
		for range 250 {
			a := rolledCatAct(d)
			want, wanted := catalogByWords(list, a)
			next, got := impl.CatalogStep(list, a)
			seen[[2]int{a.Kind, got}]++
			if got != wanted || !sameTables(next, want) {
				t.Fatalf("%v of %v: %d %v, want %d %v", a, list, got, next, wanted, want)
			}
			if !impl.CatalogOK(next) || got != impl.OK && !sameTables(next, list) {
				t.Fatalf("%v of %v: %d and %v is not right", a, list, got, next)
			}
			checkDone(t, a, got, next)
			list = next
		}
	}
	for kind, codes := range map[int][]int{
		impl.CaCreate: {impl.OK, impl.ErrBad, impl.ErrTwice, impl.ErrFull}, impl.CaDrop: {impl.OK, impl.ErrName}, impl.CaIndex: {impl.OK, impl.ErrName, impl.ErrTwice, impl.ErrBad, impl.ErrFull},
		impl.CaDropIndex: {impl.OK, impl.ErrName, impl.ErrNone}, impl.CaColumn: {impl.OK, impl.ErrName, impl.ErrTwice, impl.ErrFull, impl.ErrBad, impl.ErrType}, 0: {impl.ErrForm}, 6: {impl.ErrForm},
	} {
		for _, c := range codes {
			if seen[[2]int{kind, c}] < 10 {
				t.Error("kind", kind, "code", c, "only", seen[[2]int{kind, c}])
			}
		}
	}
}

// checkDone asks that what an act made is there, and what it took away is not.
func checkDone(t *testing.T, a impl.CatAct, got int, next []impl.Table) {
	t.Helper()
	name := a.Name
	if a.Kind == impl.CaCreate {
		name = a.Table.Name
	}
	at := slices.IndexFunc(next, func(x impl.Table) bool { return x.Name == name })
	if got != impl.OK {
		return
	}
	if (at == -1) != (a.Kind == impl.CaDrop) {
		t.Fatalf("%v: the table is at %d", a, at)
	}
	switch a.Kind {
	case impl.CaCreate:
		if !sameTable(next[at], a.Table) {
			t.Fatalf("%v: %v is there", a, next[at])
		}
	case impl.CaIndex:
		if last := next[at].Indexes[len(next[at].Indexes)-1]; last.Name != a.Index.Name || !slices.Equal(last.Columns, a.Index.Columns) {
			t.Fatalf("%v: %v is the last", a, last)
		}
	case impl.CaDropIndex:
		if slices.ContainsFunc(next[at].Indexes, func(x impl.Index) bool { return x.Name == a.Index.Name }) {
			t.Fatalf("%v: it is still there", a)
		}
	case impl.CaColumn:
		if last := next[at].Columns[len(next[at].Columns)-1]; last != a.Column {
			t.Fatalf("%v: %v is the last", a, last)
		}
	}
}
