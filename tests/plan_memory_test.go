package tests

import (
	"reflect"
	"slices"
	"strings"
	"testing"

	"loop.example/g00208/impl"
)

// somePlans are right of plannedTables, and others.
func somePlans() []impl.Plan {
	return []impl.Plan{
		{}, all("cases"), all("notes"), all("none"), ranged("cases", -1, keyOf(num(2)), behindOf(num(6)), 2), ranged("cases", 1, "", keyOf(num(6)), 1), ranged("cases", 3, "\x00", "\xff", 0), ranged("cases", 4, "", "", 1), ranged("cases", -2, "", "", 1), ranged("words", 0, strings.Repeat("\x00", 200), strings.Repeat("\xff", 201), 1), ranged("cases", least, "", "", greatest), ranged("cases", greatest, "", "", least), ranged(strings.Repeat("a", impl.MaxText+1), 0, strings.Repeat("a", impl.MaxText+1), "", 0),
	}
}

// somePlanned are queries of plannedTables, and other statements.
func somePlanned() []impl.Tree {
	d := &dice{state: 460}
	list := []impl.Tree{{}, deleteFrom("cases"), insertInto("plain", lit(num(1)), lit(num(2)))}
	for i := range 80 {
		list = append(list, roomyTree(rolledPlanned(d, plannedTables(), i%4/3*10)))
	}
	return list
}

// joinedExpressions have parts that `and` joins.
func joinedExpressions() []impl.Tree {
	list := someExpressions()
	r := &roller{dice: dice{state: 461}, scope: everyType()[1:]} // no literal but null is of the first
	for range 30 {
		list = append(list, roomyTree(pair(r.bounded(), "and", r.bounded())))
	}
	return list
}

// askedOfPlans are all calls of chapter 15 with some arguments.
func askedOfPlans() []func() []any {
	var calls []func() []any
	ask := func(f func() []any) { calls = append(calls, f) }
	for _, e := range joinedExpressions() {
		ask(func() []any { yes, c := impl.SafeExpr(e); return []any{yes, c} })
		ask(func() []any { parts, c := impl.Conjuncts(e); return []any{cloneTree(query(parts...)), c} })
	}
	d := &dice{state: 462}
	for _, list := range [][]impl.Table{nil, plannedTables(), withoutIndexes(plannedTables()), wrongCatalogs()[0], manyTables(impl.MaxList + 1)} {
		for _, n := range somePlanned() {
			ask(func() []any { p, c := impl.PlanSql(n, list); return []any{p, c} })
		}
		for _, p := range somePlans() {
			ask(func() []any { s, c := impl.PlanText(p, list); return []any{s, c} })
		}
		for _, data := range [][]impl.Data{nil, plannedData(), rolledData(d, plannedTables(), 20), emptyData(plannedTables()), make([]impl.Data, impl.MaxList+1)} {
			for _, p := range somePlans() {
				ask(func() []any { places, c := impl.PlanRows(p, list, data); return []any{places, c} })
			}
			for _, n := range somePlanned() {
				ask(func() []any { a, looked, c := impl.RunPlan(n, list, data); return []any{a, looked, c} })
			}
		}
	}
	return calls
}

func TestWhatPlansAreAskedOfStays(t *testing.T) {
	for _, e := range joinedExpressions() {
		before := cloneTree(behindTree(e))
		impl.SafeExpr(e)
		impl.Conjuncts(e)
		if !reflect.DeepEqual(cloneTree(behindTree(e)), before) {
			t.Fatalf("%.500s was changed", drawn(before))
		}
	}
	d := &dice{state: 463}
	for _, n := range somePlanned() {
		list, data := plannedTables(), roomyData(rolledData(d, plannedTables(), 9))
		tables, tree, before := cloneTables(behindTables(list)), cloneTree(behindTree(n)), behindData(data)
		impl.PlanSql(n, list)
		impl.RunPlan(n, list, data)
		for _, p := range somePlans() {
			impl.PlanRows(p, list, data)
			impl.PlanText(p, list)
		}
		if !sameTables(behindTables(list), tables) || !reflect.DeepEqual(cloneTree(behindTree(n)), tree) || !reflect.DeepEqual(behindData(data), before) {
			t.Fatalf("%.500s, its tables or its data were changed", drawn(tree))
		}
	}
}

func TestConjunctsAreNewMemory(t *testing.T) {
	some := 0
	for i := range joinedExpressions() {
		e := joinedExpressions()[i]
		before := cloneTree(behindTree(e))
		parts, code := impl.Conjuncts(e)
		if code != impl.OK {
			continue
		}
		want := cloneTree(query(parts...)).Kids
		scribbleTree(impl.Tree{Kids: parts})
		if !reflect.DeepEqual(cloneTree(behindTree(e)), before) {
			t.Fatalf("%.500s: its parts share memory with it", drawn(before))
		}
		parts, _ = impl.Conjuncts(e)
		scribbleTree(e)
		if !sameTrees(parts, want) {
			t.Fatalf("%.500s: its parts are changed with it", drawn(before))
		}
		if len(parts) > 1 {
			some++
		}
	}
	if some < 30 {
		t.Error("few of several parts", some)
	}
}

// Each list of kids of the parts is written over by itself, with what stands behind its end; the others stay.
func TestConjunctsShareNothing(t *testing.T) {
	both := []impl.Tree{field("a"), lit(num(1))}
	one := impl.Tree{Kind: impl.NdBinary, Name: "=", Kids: both}
	shared := impl.Tree{Kind: impl.NdBinary, Name: "and", Kids: []impl.Tree{one, {Kind: impl.NdUnary, Name: "not", Kids: []impl.Tree{one}}}}
	alike := impl.Tree{Kind: impl.NdBinary, Name: "and", Kids: slices.Repeat([]impl.Tree{shared}, 2)}
	for _, e := range append(joinedExpressions(), one, shared, alike) {
		first, _ := impl.Conjuncts(e)
		want := cloneTree(impl.Tree{Kids: first})
		for i := range nodesOf(&want) {
			parts, _ := impl.Conjuncts(e)
			n := impl.Tree{Kids: parts}
			p := nodesOf(&n)[i]
			kept := slices.Clone(p.Kids)
			scribbleList(p.Kids[:cap(p.Kids)], impl.Tree{Kind: -9})
			p.Kids = kept
			if !sameTree(n, want) || !sameTree(impl.Tree{Kids: first}, want) {
				t.Fatalf("%.500s: the kids of node %d share memory: %.500s", drawn(e), i, drawn(n))
			}
		}
	}
}

func TestPlacesOfPlansAreNewMemory(t *testing.T) {
	list, data := plannedTables(), roomyData(plannedData())
	tables, before := cloneTables(behindTables(list)), behindData(data)
	for _, p := range somePlans() {
		first, code := impl.PlanRows(p, list, data)
		want := slices.Clone(first)
		scribbleList(first[:cap(first)], -9)
		again, code2 := impl.PlanRows(p, list, data)
		if !slices.Equal(again, want) || code != code2 || !sameTables(behindTables(list), tables) || !reflect.DeepEqual(behindData(data), before) {
			t.Fatalf("%s: %v, then %v", shownPlan(p), want, again)
		}
	}
}

func TestAnswersByPlansAreNewMemory(t *testing.T) {
	d := &dice{state: 464}
	some := 0
	for _, n := range somePlanned() {
		list, data := plannedTables(), roomyData(rolledData(d, plannedTables(), 9))
		tables, tree, before := cloneTables(behindTables(list)), cloneTree(behindTree(n)), behindData(data)
		ask := func() impl.Answer { a, _, _ := impl.RunPlan(n, list, data); return a }
		shareNothing(t, drawn(n), func() [][]impl.Value { return ask().Rows })
		p, _ := impl.PlanSql(n, list)
		got := ask()
		told, rows := slices.Clone(got.Fields), cloneRows(got.Rows)
		scribbleRows(got.Rows)
		scribbleList(got.Fields[:cap(got.Fields)], impl.Field{Name: "scribbled", Type: -9})
		if !sameTables(behindTables(list), tables) || !reflect.DeepEqual(cloneTree(behindTree(n)), tree) || !reflect.DeepEqual(behindData(data), before) {
			t.Fatalf("%.500s: an answer shares memory with an argument", drawn(tree))
		}
		if again, _ := impl.PlanSql(n, list); again != p {
			t.Fatalf("%.500s: %s, then %s", drawn(tree), shownPlan(p), shownPlan(again))
		}
		got = ask()
		scribbleTables(list)
		scribbleTree(n)
		scribbleData(data)
		if !slices.Equal(got.Fields, told) || !sameRows(got.Rows, rows) {
			t.Fatalf("%.500s: %s, want %s", drawn(tree), shown(got.Rows), shown(rows))
		}
		if len(rows) > 1 {
			some++
		}
	}
	if some < 10 {
		t.Error("few answers of some rows", some)
	}
}

// An empty list and nil are the same.
func TestEmptyListsOfPlans(t *testing.T) {
	n := sql(t, "select id from a where id = 1")
	for _, indexes := range [][]impl.Index{nil, {}} {
		list := []impl.Table{{Name: "a", Columns: cols("id int"), Key: 1, Indexes: indexes}}
		for _, rows := range [][][]impl.Value{nil, {}} {
			data := []impl.Data{{Name: "a", Rows: rows}}
			wantRun(t, n, list, data, impl.Answer{Fields: fields("id int")}, 0, impl.OK)
			wantPlaces(t, all("a"), list, data, nil, impl.OK)
		}
		wantPlanText(t, all("a"), list, "a all", impl.OK)
		wantPlan(t, n, list, ranged("a", -1, keyOf(num(1)), behindOf(num(1)), 4), impl.OK)
	}
	for _, none := range [][]impl.Data{nil, {}} {
		wantPlaces(t, all("a"), nil, none, nil, impl.ErrBad)
		wantPlaces(t, all("a"), []impl.Table{}, none, nil, impl.ErrBad)
		wantRun(t, n, []impl.Table{}, none, impl.Answer{}, 0, impl.ErrName)
	}
}
