package tests

import (
	"reflect"
	"slices"
	"testing"

	"loop.example/g00208/impl"
)

var (
	behindValue = impl.Value{Kind: 77, N: 7, T: "behind"}
	scribbled   = impl.Value{Kind: -1, N: -7, T: "scribbled"}
)

// roomyRows have lists of their own, with room behind their ends.
func roomyRows(rows [][]impl.Value) [][]impl.Value {
	var made [][]impl.Value
	for _, r := range rows {
		made = append(made, roomy(r, behindValue))
	}
	return roomy(made, []impl.Value{behindValue})
}

// behindRows are rows with what stands behind their ends, in memory of their own.
func behindRows(rows [][]impl.Value) [][]impl.Value {
	var made [][]impl.Value
	for _, r := range rows[:cap(rows)] {
		made = append(made, append([]impl.Value(nil), r[:cap(r)]...))
	}
	return made
}

// scribbleRows writes over the rows first, as their list leads to them.
func scribbleRows(rows [][]impl.Value) {
	for _, r := range rows[:cap(rows)] {
		scribbleList(r[:cap(r)], scribbled)
	}
	scribbleList(rows[:cap(rows)], []impl.Value{scribbled})
}

func roomyData(data []impl.Data) []impl.Data {
	var made []impl.Data
	for _, d := range data {
		made = append(made, impl.Data{Name: d.Name, Rows: roomyRows(d.Rows)})
	}
	return roomy(made, impl.Data{Name: "behind"})
}

func behindData(data []impl.Data) []impl.Data {
	var made []impl.Data
	for _, d := range data[:cap(data)] {
		made = append(made, impl.Data{Name: d.Name, Rows: behindRows(d.Rows)})
	}
	return made
}

func scribbleData(data []impl.Data) {
	for _, d := range data[:cap(data)] {
		scribbleRows(d.Rows)
	}
	scribbleList(data[:cap(data)], impl.Data{Name: "scribbled"})
}

// someRowLists are lists of rows, right ones and others.
func someRowLists() [][][]impl.Value {
	d := &dice{state: 360}
	return [][][]impl.Value{
		nil, {nil}, {{}, nil, {}}, lines("1"), lines("2, 'b'; 1, 'a'; 2, 'a'; null, 'a'; 2, 'b'"), lines("1; 2, 3; null, true, x'00'"), rolledRows(d, 9, 2), rolledRows(d, 20, 3), rolledRows(d, 3, 16), rolledRows(d, 2, 17), lines("null, true, 1, 'a', x''; null, false, 3, 'b', x'00'; null, null, 0, null, null; null, true, 2, 'a', x''"),
		manyRows(impl.MaxRows, 2), manyRows(impl.MaxRows+1, 2), manyRows(impl.MaxList+1, 1), {{wrongValues()[0]}, {num(1)}},
	}
}

var someColumns = [][]int{nil, {}, {0}, {1, 0}, {1, 1}, {2}, {-1}, {least}, {greatest, 0}, make([]int, impl.MaxList+1)}

// someAsks are queries of typedTables, and other statements.
func someAsks() []impl.Tree {
	d := &dice{state: 361}
	list := []impl.Tree{{}, deleteFrom("cases"), insertInto("one", lit(num(1)))}
	for i := range 80 {
		list = append(list, roomyTree(rolledAsk(d, typedTables(), i%4/3*10)))
	}
	return list
}

// askedOfQueries are all calls of chapter 14 with some arguments.
func askedOfQueries() []func() []any {
	var calls []func() []any
	ask := func(f func() []any) { calls = append(calls, f) }
	for _, a := range someRowLists() {
		for _, b := range someRowLists() {
			ask(func() []any { rows, c := impl.ProductRows(a, b); return []any{rows, c} })
			ask(func() []any { yes, c := impl.SameBag(a, b); return []any{yes, c} })
			for _, down := range [][]bool{nil, flags("d"), flags("du"), make([]bool, 17), make([]bool, impl.MaxList+1)} {
				ask(func() []any { rows, c := impl.SortRows(a, down, b); return []any{rows, c} })
			}
		}
		for _, columns := range someColumns {
			ask(func() []any { groups, c := impl.GroupRows(columns, a); return []any{groups, c} })
		}
		for _, scope := range append(fieldLists(), twoInts()) {
			for _, e := range someExpressions()[:20] {
				ask(func() []any { rows, c := impl.FilterRows(e, scope, a); return []any{rows, c} })
				ask(func() []any {
					rows, c := impl.ProjectRows([]impl.Tree{e, lit(num(1))}, scope, a)
					return []any{rows, c}
				})
			}
		}
		ask(func() []any { s, c := impl.AnswerText(impl.Answer{Rows: a}); return []any{s, c} })
	}
	d := &dice{state: 362}
	for _, list := range [][]impl.Table{nil, typedTables(), wrongCatalogs()[0], manyTables(impl.MaxList + 1)} {
		for _, data := range [][]impl.Data{nil, rolledData(d, typedTables(), 5), rolledData(d, typedTables(), 30), emptyData(typedTables()), make([]impl.Data, impl.MaxList+1)} {
			ask(func() []any { return []any{impl.DataOK(list, data)} })
			for _, n := range someAsks() {
				ask(func() []any { a, c := impl.Query(n, list, data); return []any{a, c} })
			}
		}
	}
	return calls
}

// stay says that rows, with what stands behind them, are as they were when it was made.
func stay(t *testing.T, what string, lists ...[][]impl.Value) func() {
	t.Helper()
	var before [][][]impl.Value
	for _, rows := range lists {
		before = append(before, behindRows(rows))
	}
	return func() {
		t.Helper()
		for i, rows := range lists {
			if !reflect.DeepEqual(behindRows(rows), before[i]) {
				t.Fatalf("%.300s: argument %d was changed", what, i)
			}
		}
	}
}

func TestRowsThatAreAskedOfStay(t *testing.T) {
	for _, first := range someRowLists() {
		a := roomyRows(first)
		for _, second := range someRowLists() {
			b := roomyRows(second)
			check := stay(t, "rows "+shown(first)+" and "+shown(second), a, b)
			down := flags("dud")
			kept := slices.Clone(down[:cap(down)])
			impl.ProductRows(a, b)
			impl.SameBag(a, b)
			for size := range len(down) + 1 {
				impl.SortRows(a, down[:size], b)
				impl.SortRows(b, down[:size], a)
			}
			check()
			if !slices.Equal(down[:cap(down)], kept) {
				t.Fatal("flags were changed")
			}
		}
		check := stay(t, "rows "+shown(first), a)
		impl.AnswerText(impl.Answer{Rows: a})
		for _, some := range someColumns {
			columns := roomy(some, 77)
			kept := slices.Clone(columns[:cap(columns)])
			impl.GroupRows(columns, a)
			if !slices.Equal(columns[:cap(columns)], kept) {
				t.Fatal("columns were changed")
			}
		}
		check()
	}
}

func TestExpressionsThatAreAskedOfStay(t *testing.T) {
	for _, some := range append(fieldLists(), twoInts()) {
		scope := roomy(some, impl.Field{Of: "behind", Name: "behind", Type: 77})
		kept := slices.Clone(scope[:cap(scope)])
		for _, e := range someExpressions() {
			list := roomy([]impl.Tree{lit(num(1)), e}, impl.Tree{Kind: 77})
			before := cloneTree(behindTree(impl.Tree{Kids: list}))
			for _, first := range someRowLists() {
				rows := roomyRows(first)
				check := stay(t, drawn(e), rows)
				impl.FilterRows(e, scope, rows)
				impl.ProjectRows(list, scope, rows)
				check()
			}
			if !reflect.DeepEqual(cloneTree(behindTree(impl.Tree{Kids: list})), before) || !slices.Equal(scope[:cap(scope)], kept) {
				t.Fatalf("%.500s or its fields were changed", drawn(before))
			}
		}
	}
}

func TestDataAndQueriesStay(t *testing.T) {
	d := &dice{state: 363}
	for _, n := range someAsks() {
		list, data := typedTables(), roomyData(rolledData(d, typedTables(), 6))
		tables, tree, before := cloneTables(behindTables(list)), cloneTree(behindTree(n)), behindData(data)
		impl.DataOK(list, data)
		impl.Query(n, list, data)
		if !sameTables(behindTables(list), tables) || !reflect.DeepEqual(cloneTree(behindTree(n)), tree) || !reflect.DeepEqual(behindData(data), before) {
			t.Fatalf("%.500s, its tables or its data were changed", drawn(tree))
		}
	}
}

// shareNothing writes over each list of an answer in turn, with what stands behind it: the others stay.
func shareNothing(t *testing.T, what string, answer func() [][]impl.Value) {
	t.Helper()
	for at := range answer() {
		rows := answer()
		want := cloneRows(rows)
		scribbleList(rows[at][:cap(rows[at])], scribbled)
		want[at] = slices.Repeat(row(scribbled), len(rows[at]))
		if !sameRows(rows, want) {
			t.Fatalf("%.300s: row %d shares memory with another one", what, at)
		}
	}
}

// answersOfRows are answers of one list of rows, which is read where the answer is asked for.
func answersOfRows(rows [][]impl.Value) map[string]func() [][]impl.Value {
	other := lines("true; 'a'")
	none := make([][]impl.Value, len(rows))
	falls := make([]bool, len(rows[0]))
	falls[0] = true
	var scope []impl.Field
	for i, v := range rows[0] {
		scope = append(scope, impl.Field{Name: "c" + string(rune('0'+i)), Type: v.Kind})
	}
	first := func(list [][]impl.Value, _ int) [][]impl.Value { return list }
	return map[string]func() [][]impl.Value{
		"ProductRows left":             func() [][]impl.Value { return first(impl.ProductRows(rows, other)) },
		"ProductRows right":            func() [][]impl.Value { return first(impl.ProductRows(other, rows)) },
		"ProductRows of an empty row":  func() [][]impl.Value { return first(impl.ProductRows([][]impl.Value{nil}, rows)) },
		"ProductRows and an empty row": func() [][]impl.Value { return first(impl.ProductRows(rows, [][]impl.Value{{}})) },
		"FilterRows":                   func() [][]impl.Value { return first(impl.FilterRows(lit(flag(1)), scope, rows)) },
		"ProjectRows": func() [][]impl.Value {
			return first(impl.ProjectRows([]impl.Tree{field("c0"), lit(num(1))}, scope, rows))
		},
		"SortRows by none": func() [][]impl.Value { return first(impl.SortRows(none, nil, rows)) },
		"SortRows":         func() [][]impl.Value { return first(impl.SortRows(rows, falls, rows)) },
		"GroupRows": func() [][]impl.Value {
			groups, _ := impl.GroupRows([]int{0}, rows)
			return slices.Concat(groups...)
		},
	}
}

func TestRowsThatAreAnsweredAreNewMemory(t *testing.T) {
	words := "2, 'b'; 1, 'a'; 2, 'a'; 3, 'a'; 2, 'b'"
	for what := range answersOfRows(lines(words)) {
		shareNothing(t, what, answersOfRows(lines(words))[what])
		rows := roomyRows(lines(words))
		before := behindRows(rows)
		ask := answersOfRows(rows)[what]
		got := ask()
		want := cloneRows(got)
		if len(got) < 5 {
			t.Fatal(what, "has few rows", got)
		}
		scribbleRows(got)
		if !reflect.DeepEqual(behindRows(rows), before) {
			t.Fatal(what, "shares memory with an argument")
		}
		got = ask()
		scribbleRows(rows)
		wantRows(t, what+" when its arguments are written over", got, impl.OK, want, impl.OK)
	}
}

// A row that stands twice in an argument, in the same memory, stands twice in memory of its own in an answer.
func TestRowsThatShareMemoryAreParted(t *testing.T) {
	one := row(num(1), text("a"))
	rows := slices.Repeat([][]impl.Value{one}, 4)
	for what, ask := range answersOfRows(rows) {
		shareNothing(t, what, ask)
	}
}

func TestGroupsThatAreAnsweredAreNewMemory(t *testing.T) {
	words := "2, 'b'; 1, 'a'; 2, 'a'; 3, 'a'; 2, 'b'; 1, 'c'"
	for _, columns := range [][]int{nil, {0}, {1}, {0, 1}} {
		want, _ := impl.GroupRows(columns, lines(words))
		for at := range want {
			groups, _ := impl.GroupRows(columns, lines(words))
			scribbleRows(groups[at])
			for i := range groups {
				if i != at && !sameRows(groups[i], want[i]) {
					t.Fatalf("by %v: groups %d and %d share memory", columns, at, i)
				}
			}
		}
	}
}

func TestAnswersOfQueriesAreNewMemory(t *testing.T) {
	d := &dice{state: 364}
	some := 0
	for _, n := range someAsks() {
		list, data := typedTables(), roomyData(rolledData(d, typedTables(), 6))
		tables, tree, before := cloneTables(behindTables(list)), cloneTree(behindTree(n)), behindData(data)
		ask := func() impl.Answer { a, _ := impl.Query(n, list, data); return a }
		shareNothing(t, drawn(n), func() [][]impl.Value { return ask().Rows })
		got := ask()
		told, rows := slices.Clone(got.Fields), cloneRows(got.Rows)
		scribbleRows(got.Rows)
		scribbleList(got.Fields[:cap(got.Fields)], impl.Field{Name: "scribbled", Type: -9})
		if !sameTables(behindTables(list), tables) || !reflect.DeepEqual(cloneTree(behindTree(n)), tree) || !reflect.DeepEqual(behindData(data), before) {
			t.Fatalf("%.500s: an answer shares memory with an argument", drawn(tree))
		}
		got = ask()
		scribbleTables(list)
		scribbleTree(n)
		scribbleData(data)
		if !slices.Equal(got.Fields, told) || !sameRows(got.Rows, rows) {
			t.Fatalf("%.500s: %s, want %s", drawn(tree), shown(got.Rows), shown(rows))
		}
		if len(rows) > 1 {
			some++
		}
	}
	if some < 10 {
		t.Error("few answers of some rows", some)
	}
}

// Trees that have themselves within, and such as are far beyond all bounds.
func TestQueriesOfGreatTrees(t *testing.T) {
	knot := make([]impl.Tree, 2)
	knot[0], knot[1] = impl.Tree{Kind: impl.NdUnary, Name: "-", Kids: knot[:1]}, impl.Tree{Kind: impl.NdBinary, Name: "+", Kids: knot}
	deep := make([]impl.Tree, 1000000)
	for i := range deep[1:] {
		deep[i+1] = impl.Tree{Kind: impl.NdUnary, Name: "-", Kids: deep[i : i+1]}
	}
	twice := []impl.Tree{field("i"), field("i")}
	for range 40 {
		twice = slices.Repeat([]impl.Tree{{Kind: impl.NdBinary, Name: "and", Kids: twice}}, 2)
	}
	long := manyRows(impl.MaxList+1, 1)
	for _, e := range []impl.Tree{knot[0], knot[1], deep[len(deep)-1], twice[0], {Kind: impl.NdAgg, Name: "count", Kids: make([]impl.Tree, impl.MaxList+1)}} {
		for code, rows := range map[int][][]impl.Value{impl.ErrBad: lines("1"), impl.ErrLong: long} {
			got, told := impl.FilterRows(e, fields("i int"), rows)
			wantRows(t, "FilterRows of a great tree", got, told, nil, code)
			got, told = impl.ProjectRows([]impl.Tree{lit(num(1)), e}, fields("i int"), rows)
			wantRows(t, "ProjectRows of a great tree", got, told, nil, code)
		}
		for _, n := range []impl.Tree{e, query(item(e), from("one")), query(item(field("x")), from("one"), where(e)), query(item(field("x")), from("one"), rising(e)), query(item(field("x")), from("one"), fromAs("one", "y"), joinOn(e))} {
			if got, told := impl.Query(n, askedTables(), askedData()); len(got.Fields)+len(got.Rows) > 0 || told != impl.ErrBad {
				t.Error("Query of a great tree", told)
			}
		}
	}
}
