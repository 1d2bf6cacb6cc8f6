package tests

import (
	"slices"
	"testing"

	"loop.example/g00208/impl"
)

// canNotFail is a condition of the fields that has no fault of types, and can have none of values.
func (r *roller) canNotFail(size int) impl.Tree {
	for {
		e := r.expr(impl.VaBool, size, false)
		if _, code, _ := typedByWords(e, r.scope); code == impl.OK && len(faultsOf(e)) == 0 {
			return e
		}
	}
}

// inTurn are the rows that are left by one filter behind the other.
func inTurn(t *testing.T, scope []impl.Field, rows [][]impl.Value, filters ...impl.Tree) [][]impl.Value {
	t.Helper()
	for _, e := range filters {
		left, got := impl.FilterRows(e, scope, rows)
		if got != impl.OK {
			t.Fatalf("FilterRows %s: %s", drawn(e), impl.CodeWord(got))
		}
		rows = left
	}
	return rows
}

// To ask for both of two things that can not fail is to ask for one, then for the other.
func TestBothOfTwoThings(t *testing.T) {
	some := map[bool]int{}
	for i, scope := range someScopes() {
		r := &roller{dice: dice{state: uint64(330 + i)}, scope: scope}
		for range 250 {
			var rows [][]impl.Value
			for range r.below(12) {
				rows = append(rows, rolledLine(&r.dice, scope, 4))
			}
			a, b := r.canNotFail(1+r.below(8)), r.canNotFail(1+r.below(8))
			want := inTurn(t, scope, rows, a, b)
			wantFilter(t, pair(a, "and", b), scope, rows, want, impl.OK)
			wantFilter(t, pair(b, "and", a), scope, rows, want, impl.OK)
			wantRows(t, "the other first", inTurn(t, scope, rows, b, a), impl.OK, want, impl.OK)
			wantRows(t, "one twice", inTurn(t, scope, want, a, b, a), impl.OK, want, impl.OK)
			some[len(want) > 0 && len(want) < len(rows)]++
		}
	}
	if some[true] < 100 {
		t.Error("few filters leave some rows", some)
	}
}

// A query asks for both in one where, and in an on and a where; each part of it by itself finds the same rows.
func TestBothOfTwoThingsInQueries(t *testing.T) {
	list := typedTables()
	d := &dice{state: 335}
	some := 0
	for range 300 {
		data := rolledData(d, list, 12)
		tables := []impl.Tree{fromAs(list[d.below(5)].Name, "x"), fromAs(list[d.below(5)].Name, "y")}
		ask := func(on, condition impl.Tree) impl.Tree {
			return query(slices.Concat([]impl.Tree{item(lit(num(1)))}, tables, []impl.Tree{joinOn(on), where(condition)})...)
		}
		scope, _, _ := scopeByWords(list, ask(lit(flag(1)), lit(flag(1))))
		r := &roller{dice: dice{state: uint64(d.below(1 << 30))}, scope: scope}
		a, b := r.canNotFail(1+r.below(6)), r.canNotFail(1+r.below(6))
		both, code := impl.Query(ask(pair(a, "and", b), lit(flag(1))), list, data)
		for _, n := range []impl.Tree{ask(a, b), ask(b, a), ask(lit(flag(1)), pair(a, "and", b)), ask(lit(flag(1)), pair(b, "and", a))} {
			wantAnswer(t, n, list, data, both, code)
		}
		if len(both.Rows) > 0 {
			some++
		}
	}
	if some < 50 {
		t.Error("few queries leave some rows", some)
	}
}

// Rolled queries over rolled data, some of both with a fault, answer as the words say.
func TestRolledQueries(t *testing.T) {
	list := typedTables()
	d := &dice{state: 340}
	count, some := map[int]int{}, 0
	for i := range 4000 {
		slip := []int{0, 0, 0, 30}[i%4]
		n := rolledAsk(d, list, slip)
		data := rolledData(d, list, []int{4, 4, 12, 40}[d.below(4)])
		if d.below(40) == 0 {
			data[d.below(len(data))].Name = "other"
		}
		want, wanted := queryByWords(n, list, data)
		wantAnswer(t, n, list, data, want, wanted)
		words, _ := answerByWords(want)
		if s, code := impl.AnswerText(want); s != words || code != impl.OK {
			t.Errorf("AnswerText of %s: %q %d", shown(want.Rows), s, code)
		}
		count[wanted]++
		if len(want.Rows) > 1 {
			some++
		}
		if t.Failed() {
			t.Fatal("and no more are asked")
		}
	}
	for _, code := range []int{impl.OK, impl.ErrBad, impl.ErrName, impl.ErrType, impl.ErrTwice, impl.ErrCount, impl.ErrMany, impl.ErrZero, impl.ErrRange} {
		if count[code] < 10 {
			t.Error("few of", impl.CodeWord(code), count)
		}
	}
	if some < 400 {
		t.Error("few answers of several rows", some)
	}
}

// without has all parts of a query but those of some letters.
func without(n impl.Tree, letters string) impl.Tree {
	var parts []impl.Tree
	for _, part := range n.Kids {
		if !slices.Contains([]byte(letters), letterOf(part)) {
			parts = append(parts, part)
		}
	}
	return query(parts...)
}

// A limit cuts off what the query answers without it; orders change nothing but the order of rows.
func TestLimitsCutAndOrdersSort(t *testing.T) {
	list := typedTables()
	d := &dice{state: 345}
	some := 0
	for range 1500 {
		n := without(rolledAsk(d, list, 0), "L")
		data := rolledData(d, list, 8)
		whole, code := impl.Query(n, list, data)
		if code != impl.OK {
			continue
		}
		for _, most := range []int{0, 1, 2, len(whole.Rows), len(whole.Rows) + 1, 999999999999999999} {
			cut := without(n, "L")
			cut.Kids = append(cut.Kids, limit(most))
			wantAnswer(t, cut, list, data, impl.Answer{Fields: whole.Fields, Rows: whole.Rows[:min(most, len(whole.Rows))]}, impl.OK)
		}
		plain := without(n, "R")
		if groupedByWords(plain) != groupedByWords(n) { // an aggregate stands in an order alone
			continue
		}
		loose, code := impl.Query(plain, list, data)
		if len(loose.Rows) > 0 && len(loose.Rows[0]) <= 16 {
			wantBag(t, loose.Rows, whole.Rows, true, impl.OK)
			some++
		}
		if code != impl.OK || len(loose.Rows) != len(whole.Rows) {
			t.Fatalf("%s: %d rows without orders, %d with them", drawn(n), len(loose.Rows), len(whole.Rows))
		}
	}
	if some < 200 {
		t.Error("few queries of some rows", some)
	}
}

// partTrees are the expressions of a query's parts of a letter.
func partTrees(n impl.Tree, letter byte) []impl.Tree {
	var list []impl.Tree
	for _, part := range partsOf(n, letter) {
		list = append(list, part.Kids[0])
	}
	return list
}

// A query whose rows stand alone is its product, filtered, projected and sorted.
func TestQueriesAreMadeOfTheirParts(t *testing.T) {
	list := typedTables()
	d := &dice{state: 350}
	some := 0
	for range 2500 {
		n := without(rolledAsk(d, list, 0), "L")
		if _, told, _ := checkedByWords(n, list); groupedByWords(n) || told != impl.OK {
			continue
		}
		data := rolledData(d, list, 8)
		got, code := impl.Query(n, list, data)
		scope, _, _ := scopeByWords(list, n)
		var sources [][][]impl.Value
		for _, part := range partsOf(n, 'T') {
			at := slices.IndexFunc(data, func(x impl.Data) bool { return x.Name == part.Name })
			sources = append(sources, data[at].Rows)
		}
		rows := sources[0]
		if len(sources) == 2 {
			rows, _ = impl.ProductRows(rows, sources[1])
		}
		told := impl.OK
		for _, e := range append(partTrees(n, 'O'), partTrees(n, 'W')...) {
			if told == impl.OK {
				rows, told = impl.FilterRows(e, scope, rows)
			}
		}
		if told != impl.OK {
			if code != told {
				t.Fatalf("%s: %s, but the filter tells %s", drawn(n), impl.CodeWord(code), impl.CodeWord(told))
			}
			continue
		}
		keys, c1 := impl.ProjectRows(partTrees(n, 'R'), scope, rows)
		made, c2 := impl.ProjectRows(partTrees(n, 'I'), scope, rows)
		if c1+c2 != impl.OK {
			if code != c1 && code != c2 {
				t.Fatalf("%s: %s, but items tell %s and orders %s", drawn(n), impl.CodeWord(code), impl.CodeWord(c2), impl.CodeWord(c1))
			}
			continue
		}
		var down []bool
		for _, part := range partsOf(n, 'R') {
			down = append(down, part.N == 1)
		}
		want, c3 := impl.SortRows(keys, down, made)
		wantRows(t, drawn(n), got.Rows, code, want, c3)
		if len(want) > 1 {
			some++
		}
	}
	if some < 200 {
		t.Error("few queries of some rows", some)
	}
}

// The groups of a query part its rows: counts and sums of all groups are those of the whole.
func TestGroupsPartTheRowsOfQueries(t *testing.T) {
	list := askedTables()
	d := &dice{state: 355}
	for range 400 {
		data := rolledData(d, list, 14)
		for _, source := range []string{"cases", "cases where n > 0", "cases where status is not null", "cases where false"} {
			whole, code := impl.Query(sql(t, "select count(*), count(n), min(n), max(n) from "+source), list, data)
			if code != impl.OK || len(whole.Rows) != 1 {
				t.Fatal(source, whole, code)
			}
			for _, by := range []string{"status", "n", "id", "status, n", "n, status, id"} {
				parts, code := impl.Query(sql(t, "select count(*), count(n), min(n), max(n) from "+source+" group by "+by), list, data)
				if code != impl.OK {
					t.Fatal(source, by, code)
				}
				sum := row(num(0), num(0), impl.Value{}, impl.Value{})
				for _, r := range parts.Rows {
					if r[0].N < 1 {
						t.Fatal(source, by, "has a group of nothing")
					}
					sum[0].N += r[0].N
					sum[1].N += r[1].N
					sum[2], _ = impl.AggValue("min", row(sum[2], r[2]))
					sum[3], _ = impl.AggValue("max", row(sum[3], r[3]))
				}
				if !slices.Equal(sum, whole.Rows[0]) {
					t.Fatalf("%s by %s: %v in all, want %v", source, by, sum, whole.Rows[0])
				}
			}
		}
	}
}
