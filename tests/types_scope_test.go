package tests

import (
	"fmt"
	"math"
	"slices"
	"strings"
	"testing"

	"loop.example/g00208/impl"
)

const (
	casesFields = "cases.id int, cases.status text, cases.flag bool, cases.mark bytes, cases.n int"
	notesFields = "notes.id int, notes.what text, notes.flag bool, notes.n text"
)

func TestScopes(t *testing.T) {
	called := func(words, from, to string) string { return strings.ReplaceAll(words, from+".", to+".") }
	for _, c := range []struct{ s, want string }{
		{"select 1 from cases", casesFields},
		{"select 1 from one", "one.x int"},
		{"select 1 from cases as c", called(casesFields, "cases", "c")},
		{"select 1 from cases as cases", casesFields},
		{"select 1 from cases as notes", called(casesFields, "cases", "notes")},
		{"select 1 from cases join notes on true", casesFields + "," + notesFields},
		{"select 1 from notes join cases on true", notesFields + "," + casesFields},
		{"select 1 from cases as c join notes on true", called(casesFields, "cases", "c") + "," + notesFields},
		{"select 1 from cases join notes as n on true", casesFields + "," + called(notesFields, "notes", "n")},
		{"select 1 from cases as a join cases as b on true", called(casesFields, "cases", "a") + "," + called(casesFields, "cases", "b")},
		{"select 1 from cases as a join cases on true", called(casesFields, "cases", "a") + "," + casesFields},
		{"select 1 from cases join cases as a on true", casesFields + "," + called(casesFields, "cases", "a")},
		{"select 1 from cases as notes join notes as cases on true", called(casesFields, "cases", "notes") + "," + called(notesFields, "notes", "cases")},
		{"select 1 from id as x join one as X on true", "x.id bytes, x.cases bool, X.x int"},
		{"insert into cases values (1)", casesFields},
		{"insert into one values (x, none, 1 + 'a')", "one.x int"},
		{"update notes set none = none", notesFields},
		{"delete from notes", notesFields},
		{"delete from id where none", "id.id bytes, id.cases bool"},
		{"select none, cases.none, sum('a') from cases where 1 group by none order by 2 + 'a' limit 3", casesFields},
	} {
		wantScope(t, typedTables(), sql(t, c.s), fields(c.want), impl.OK, 0)
	}
	wide, _, _ := impl.ScopeOf(typedTables(), sql(t, "select 1 from wide as a join wide as b on true"))
	if len(wide) != 16 || wide[0] != (impl.Field{Of: "a", Name: "c0", Type: impl.VaBool}) || wide[15] != (impl.Field{Of: "b", Name: "c7", Type: impl.VaBytes}) {
		t.Error("two wide tables", wide)
	}
}

func TestScopesOfTablesThatAreNotThere(t *testing.T) {
	for _, c := range []struct {
		s      string
		wanted int
		place  int
	}{
		{"select 1 from none", impl.ErrName, 3}, {"select 1 from Cases", impl.ErrName, 3}, {"select 1 from none as cases", impl.ErrName, 3}, {"select 1 from case", impl.ErrName, 3}, {"select 1 from casess", impl.ErrName, 3}, {"select 1, 2 + 3 as b from none where 1", impl.ErrName, 7},
		{"select 1 from none join cases on true", impl.ErrName, 3}, {"select 1 from cases join none on true", impl.ErrName, 4}, {"select 1 from none join nil on true", impl.ErrName, 3}, {"select -(1 + 2) from cases as c join c on true", impl.ErrName, 7},
		{"select 1 from cases join cases on true", impl.ErrTwice, 4}, {"select 1 from cases as c join cases as c on true", impl.ErrTwice, 4}, {"select 1 from cases as c join notes as c on true", impl.ErrTwice, 4}, {"select 1 from cases join notes as cases on true", impl.ErrTwice, 4}, {"select 1 from notes as cases join cases on true", impl.ErrTwice, 4}, {"select 1, not true, 3 from notes as n join notes as n on true", impl.ErrTwice, 9},
		{"select 1 from none join none on true", impl.ErrName, 3}, {"select 1 from none as c join cases as c on true", impl.ErrName, 3}, {"select 1 from cases as c join none as c on true", impl.ErrName, 4}, {"select 1 from cases join none as cases on true", impl.ErrName, 4}, {"select 1 from none as c join nil as c on true", impl.ErrName, 3},
		{"insert into none values (1)", impl.ErrName, 0}, {"update none set a = 1", impl.ErrName, 0}, {"delete from none", impl.ErrName, 0}, {"delete from none where none", impl.ErrName, 0},
	} {
		n := sql(t, c.s)
		wantScope(t, typedTables(), n, nil, c.wanted, c.place)
		wantChecked(t, n, typedTables(), nil, c.wanted, c.place)
	}
	for _, none := range [][]impl.Table{nil, {}} {
		for s, place := range map[string]int{"select 1 from cases": 3, "select 1 from cases as a join cases as b on true": 3, "insert into cases values (1)": 0, "update cases set n = 1": 0, "delete from cases": 0} {
			wantScope(t, none, sql(t, s), nil, impl.ErrName, place)
			wantChecked(t, sql(t, s), none, nil, impl.ErrName, place)
		}
	}
}

func TestScopesOfEachTable(t *testing.T) {
	for _, list := range rightCatalogs() {
		for _, x := range list {
			var want []impl.Field
			for _, c := range x.Columns {
				want = append(want, impl.Field{Of: x.Name, Name: c.Name, Type: c.Type})
			}
			for _, n := range []impl.Tree{query(item(lit(num(1))), from(x.Name)), insertInto(x.Name, lit(num(1))), updateOf(x.Name, setTo("a", lit(num(1)))), deleteFrom(x.Name)} {
				wantScope(t, list, n, want, impl.OK, 0)
			}
		}
	}
}

// wrongTrees are no right statements.
func wrongTrees() []impl.Tree {
	var list []impl.Tree
	for _, n := range someStatements() {
		if !statementByWords(n) {
			list = append(list, n)
		}
	}
	return append(list, ofSize(impl.MaxTree+1)...)
}

func wantNoStatement(t *testing.T, list []impl.Table, n impl.Tree, wanted int) {
	t.Helper()
	scope, got, at := impl.ScopeOf(list, n)
	told, got2, at2 := impl.CheckSql(n, list)
	if got != wanted || got2 != wanted || at != 0 || at2 != 0 || len(scope)+len(told) != 0 {
		t.Errorf("%d tables: %v %s %d, %v %s %d, want %s: %.300s", len(list), scope, impl.CodeWord(got), at, told, impl.CodeWord(got2), at2, impl.CodeWord(wanted), drawn(n))
	}
}

func TestWrongCatalogsAndTrees(t *testing.T) {
	right := sql(t, "select 1 from t00000")
	for _, list := range wrongCatalogs() {
		wantNoStatement(t, list, right, impl.ErrBad)
		wantNoStatement(t, list, deleteFrom("none"), impl.ErrBad)
		wantNoStatement(t, list, impl.Tree{}, impl.ErrBad)
	}
	for _, n := range wrongTrees() {
		wantNoStatement(t, nil, n, impl.ErrBad)
		wantNoStatement(t, typedTables(), n, impl.ErrBad)
		wantNoStatement(t, manyTables(impl.MaxList), n, impl.ErrBad)
		wantNoStatement(t, manyTables(impl.MaxList+1), n, impl.ErrLong)
	}
	for _, count := range []int{impl.MaxTables + 1, impl.MaxList - 1, impl.MaxList} {
		wantNoStatement(t, manyTables(count), right, impl.ErrBad)
	}
	wantNoStatement(t, manyTables(impl.MaxList+1), right, impl.ErrLong)
	wantNoStatement(t, make([]impl.Table, impl.MaxList), right, impl.ErrBad)
	wantNoStatement(t, make([]impl.Table, impl.MaxList+1), right, impl.ErrLong)
	wantScope(t, manyTables(impl.MaxTables), right, fields("t00000.id int, t00000.more text"), impl.OK, 0)
}

func TestFindField(t *testing.T) {
	joined := fields(casesFields + "," + notesFields)
	loose := fields("id int, cases.id text, n null, a.id bool, a.a int, b.a int, c.c int, c.c text")
	for _, c := range []struct {
		scope        []impl.Field
		of, name     string
		want, wanted int
	}{
		{joined, "", "status", 1, impl.OK}, {joined, "", "mark", 3, impl.OK}, {joined, "", "what", 6, impl.OK}, {joined, "cases", "status", 1, impl.OK}, {joined, "notes", "what", 6, impl.OK},
		{joined, "cases", "id", 0, impl.OK}, {joined, "notes", "id", 5, impl.OK}, {joined, "cases", "n", 4, impl.OK}, {joined, "notes", "n", 8, impl.OK},
		{joined, "", "id", 0, impl.ErrTwice}, {joined, "", "flag", 0, impl.ErrTwice}, {joined, "", "n", 0, impl.ErrTwice},
		{joined, "", "none", 0, impl.ErrName}, {joined, "cases", "what", 0, impl.ErrName}, {joined, "notes", "status", 0, impl.ErrName}, {joined, "none", "id", 0, impl.ErrName}, {joined, "none", "none", 0, impl.ErrName}, {joined, "id", "cases", 0, impl.ErrName}, {joined, "", "cases", 0, impl.ErrName},
		{joined, "", "ID", 0, impl.ErrName}, {joined, "Cases", "id", 0, impl.ErrName}, {joined, "", "", 0, impl.ErrName}, {joined, "cases", "", 0, impl.ErrName}, {joined, "", "stat", 0, impl.ErrName}, {joined, "case", "id", 0, impl.ErrName}, {joined, "", "statuss", 0, impl.ErrName}, {joined, "", "cases.id", 0, impl.ErrName}, {joined, "", " status", 0, impl.ErrName}, {joined, "9", "\x00", 0, impl.ErrName}, {joined, "", "select", 0, impl.ErrName},
		{loose, "", "id", 0, impl.ErrTwice}, {loose, "cases", "id", 1, impl.OK}, {loose, "a", "id", 3, impl.OK}, {loose, "", "n", 2, impl.OK}, {loose, "cases", "n", 0, impl.ErrName}, {loose, "", "a", 0, impl.ErrTwice}, {loose, "a", "a", 4, impl.OK}, {loose, "b", "a", 5, impl.OK}, {loose, "", "c", 0, impl.ErrTwice}, {loose, "c", "c", 0, impl.ErrTwice},
		{nil, "", "id", 0, impl.ErrName}, {[]impl.Field{}, "a", "id", 0, impl.ErrName}, {nil, "", "", 0, impl.ErrName}, {fields("a int"), "", "a", 0, impl.OK}, {fields("a int"), "a", "a", 0, impl.ErrName}, {fields("a.a int"), "a", "a", 0, impl.OK}, {fields("a int, a int"), "", "a", 0, impl.ErrTwice}, {fields("a int, a text, a bool"), "", "a", 0, impl.ErrTwice},
	} {
		wantField(t, c.scope, c.of, c.name, c.want, c.wanted)
	}
}

// Every field of small scopes is sought by every pair of names: it is found just where it is once.
func TestNamesAreFoundJustWhereTheyAreOnce(t *testing.T) {
	pool := fields("a int, b text, x.a bool, x.b null, y.a bytes")
	var each func(scope []impl.Field)
	each = func(scope []impl.Field) {
		for _, of := range []string{"", "x", "y", "z"} {
			for _, name := range []string{"a", "b", "c", "x", ""} {
				want, wanted := fieldByWords(scope, of, name)
				wantField(t, scope, of, name, want, wanted)
			}
		}
		for _, f := range pool {
			if len(scope) < 4 {
				each(append(slices.Clone(scope), f))
			}
		}
	}
	each(nil)
}

// manyFields have different names.
func manyFields(count int) []impl.Field {
	var list []impl.Field
	for i := range count {
		list = append(list, impl.Field{Of: "t", Name: fmt.Sprint("c", i), Type: i % 5})
	}
	return list
}

func TestHowManyFieldsThereMayBe(t *testing.T) {
	for count, wanted := range map[int]int{1: impl.OK, 8: impl.OK, 15: impl.OK, 16: impl.OK, 17: impl.ErrBad, 32: impl.ErrBad, impl.MaxList: impl.ErrBad, impl.MaxList + 1: impl.ErrLong, impl.MaxList * 2: impl.ErrLong} {
		scope, last := manyFields(count), fmt.Sprint("c", count-1)
		want, kind := count-1, (count-1)%5
		if wanted != impl.OK {
			want, kind = 0, 0
		}
		wantField(t, scope, "t", last, want, wanted)
		wantField(t, scope, "", last, want, wanted)
		wantType(t, field(last), scope, kind, wanted, 0)
		if wanted == impl.OK {
			wantField(t, scope, "", "none", 0, impl.ErrName)
			wantField(t, append(scope[:count-1], scope[0]), "", "c0", 0, map[bool]int{true: impl.ErrTwice}[count > 1])
		} else {
			wantField(t, scope, "", "none", 0, wanted)
		}
	}
}

// wrongFields are not right, each for a reason of its own.
func wrongFields() []impl.Field {
	var list []impl.Field
	for _, name := range append(noNames(), strings.Repeat("n", impl.MaxText+1)) {
		list = append(list, impl.Field{Name: name, Type: impl.VaInt}, impl.Field{Of: "t", Name: name, Type: impl.VaInt})
		if name != "" {
			list = append(list, impl.Field{Of: name, Name: "a", Type: impl.VaInt})
		}
	}
	for _, kind := range []int{math.MinInt, -1, impl.VaBytes + 1, 256, 256 + impl.VaInt, math.MaxInt} {
		list = append(list, impl.Field{Name: "a", Type: kind}, impl.Field{Of: "t", Name: "b", Type: kind})
	}
	return list
}

func TestFieldsThatAreNotRight(t *testing.T) {
	a, b := impl.Field{Name: "a", Type: impl.VaInt}, impl.Field{Of: "t", Name: "b", Type: impl.VaText}
	for _, wrong := range wrongFields() {
		for _, scope := range [][]impl.Field{{wrong}, {a, wrong}, {wrong, b}, {a, wrong, b}, {a, a, wrong}, append(manyFields(15), wrong)} {
			for _, name := range []string{"a", "b", "none", ""} {
				wantField(t, scope, "", name, 0, impl.ErrBad)
				wantField(t, scope, "t", name, 0, impl.ErrBad)
			}
			wantType(t, field("a"), scope, 0, impl.ErrBad, 0)
			wantType(t, lit(num(1)), scope, 0, impl.ErrBad, 0)
			wantType(t, unary("not", lit(num(1))), scope, 0, impl.ErrBad, 0)
		}
	}
	for _, name := range append(slices.Clone(oddNames), statementWords...) {
		wantField(t, []impl.Field{a, {Name: name, Type: impl.VaInt}}, "", name, 1, impl.OK)
		wantField(t, []impl.Field{a, {Of: name, Name: "b", Type: impl.VaNull}, b}, name, "b", 1, impl.OK)
	}
}

func TestLongNamesOfFields(t *testing.T) {
	long, longer := strings.Repeat("n", impl.MaxText), strings.Repeat("n", impl.MaxText+1)
	one, wrong := fields("a int"), []impl.Field{{}}
	for _, c := range []struct {
		scope    []impl.Field
		of, name string
		wanted   int
	}{
		{one, "", long, impl.ErrName}, {one, long, "a", impl.ErrName}, {one, long, long, impl.ErrName}, {wrong, long, long, impl.ErrBad}, {manyFields(17), long, long, impl.ErrBad},
		{one, "", longer, impl.ErrLong}, {one, longer, "a", impl.ErrLong}, {one, longer, longer, impl.ErrLong}, {wrong, "", longer, impl.ErrLong}, {wrong, longer, "a", impl.ErrLong}, {nil, longer, "", impl.ErrLong}, {manyFields(17), "", longer, impl.ErrLong}, {manyFields(impl.MaxList + 1), longer, longer, impl.ErrLong},
	} {
		wantField(t, c.scope, c.of, c.name, 0, c.wanted)
	}
}
