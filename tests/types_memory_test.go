package tests

import (
	"reflect"
	"slices"
	"strings"
	"testing"

	"loop.example/g00208/impl"
)

// someTyped are statements over typedTables, right ones and others.
func someTyped() []impl.Tree {
	d := &dice{state: 101}
	var list []impl.Tree
	for range 40 {
		list = append(list, roomyTree(rolledSql(d, typedTables(), 0)), roomyTree(rolledSql(d, typedTables(), 8)))
	}
	return append(list, someStatements()...)
}

// someExpressions are right ones, and others.
func someExpressions() []impl.Tree {
	r := &roller{dice: dice{state: 102}, scope: everyType(), slip: 10}
	list := []impl.Tree{{}, agg("count"), agg("sum", agg("count")), chain(impl.MaxDeep), chain(impl.MaxDeep + 1), broad(impl.MaxTree + 1), queryOf(field("i")), item(field("i"))}
	for range 40 {
		list = append(list, roomyTree(r.expr(r.kind(), 1+r.below(12), true)))
	}
	return list
}

// fieldLists are right scopes, and others.
func fieldLists() [][]impl.Field {
	return append(someScopes(), []impl.Field{{}}, []impl.Field{{Name: "a", Type: -1}}, manyFields(17), manyFields(impl.MaxList), manyFields(impl.MaxList+1))
}

// askedOfTypes are all calls of chapter 12 with some arguments.
func askedOfTypes() []func() []any {
	var calls []func() []any
	ask := func(f func() []any) { calls = append(calls, f) }
	for _, list := range [][]impl.Table{nil, typedTables(), typedTables()[1:], wrongCatalogs()[0], manyTables(impl.MaxList + 1)} {
		for _, n := range someTyped() {
			ask(func() []any { scope, c, at := impl.ScopeOf(list, n); return []any{scope, c, at} })
			ask(func() []any { told, c, at := impl.CheckSql(n, list); return []any{told, c, at} })
			ask(func() []any { yes, c := impl.Grouped(n); return []any{yes, c} })
		}
	}
	for _, scope := range fieldLists() {
		for _, e := range someExpressions() {
			ask(func() []any { kind, c, at := impl.TypeOf(e, scope); return []any{kind, c, at} })
		}
		for _, name := range []string{"", "id", "a", "c3", "none", strings.Repeat("n", impl.MaxText+1)} {
			ask(func() []any { at, c := impl.FindField(scope, "", name); return []any{at, c} })
			ask(func() []any { at, c := impl.FindField(scope, name, "id"); return []any{at, c} })
		}
	}
	return calls
}

func TestTypedArgumentsStay(t *testing.T) {
	list := typedTables()
	tables := cloneTables(behindTables(list))
	for _, n := range someTyped() {
		before := cloneTree(behindTree(n))
		impl.ScopeOf(list, n)
		impl.CheckSql(n, list)
		impl.Grouped(n)
		if !reflect.DeepEqual(cloneTree(behindTree(n)), before) || !sameTables(behindTables(list), tables) {
			t.Fatalf("%.500s or its tables were changed", drawn(before))
		}
	}
	for _, fields := range fieldLists() {
		scope := roomy(fields, impl.Field{Of: "behind", Name: "behind", Type: 77})
		kept := slices.Clone(scope[:cap(scope)])
		for _, e := range someExpressions() {
			before := cloneTree(behindTree(e))
			impl.TypeOf(e, scope)
			impl.FindField(scope, "", "id")
			impl.FindField(scope, "notes", "id")
			if !reflect.DeepEqual(cloneTree(behindTree(e)), before) || !slices.Equal(scope[:cap(scope)], kept) {
				t.Fatalf("%.500s or its fields were changed", drawn(before))
			}
		}
	}
}

// Fields that are told are written over, with what stands behind them; the same is told again.
func TestFieldsThatAreToldAreNewMemory(t *testing.T) {
	scribbled := impl.Field{Of: "scribbled", Name: "scribbled", Type: -9}
	for _, n := range someTyped() {
		list := typedTables()
		tables, tree := cloneTables(behindTables(list)), cloneTree(behindTree(n))
		scope, _, _ := impl.ScopeOf(list, n)
		told, _, _ := impl.CheckSql(n, list)
		first, second := slices.Clone(scope), slices.Clone(told)
		scribbleList(scope[:cap(scope)], scribbled)
		if !slices.Equal(told, second) {
			t.Fatalf("%.500s: two answers share memory", drawn(n))
		}
		scribbleList(told[:cap(told)], scribbled)
		if !sameTables(behindTables(list), tables) || !reflect.DeepEqual(cloneTree(behindTree(n)), tree) {
			t.Fatalf("%.500s: an answer shares memory with an argument", drawn(tree))
		}
		scope, _, _ = impl.ScopeOf(list, n)
		told, _, _ = impl.CheckSql(n, list)
		scribbleTables(list)
		scribbleTree(n)
		if !slices.Equal(scope, first) || !slices.Equal(told, second) {
			t.Fatalf("%.500s: %v %v, want %v %v", drawn(tree), scope, told, first, second)
		}
	}
}

// An empty list and nil are the same.
func TestEmptyListsOfTypes(t *testing.T) {
	for _, none := range [][]impl.Field{nil, {}} {
		wantField(t, none, "", "a", 0, impl.ErrName)
		wantType(t, lit(num(1)), none, impl.VaInt, impl.OK, 0)
	}
	for _, none := range [][]impl.Tree{nil, {}} {
		count := impl.Tree{Kind: impl.NdAgg, Name: "count", Kids: none}
		wantType(t, count, nil, impl.VaInt, impl.OK, 0)
		wantChecked(t, query(item(count), from("one")), typedTables(), []impl.Field{{Type: impl.VaInt}}, impl.OK, 0)
		wantChecked(t, impl.Tree{Kind: impl.NdDelete, Name: "one", Kids: none}, typedTables(), nil, impl.OK, 0)
		wantScope(t, typedTables(), impl.Tree{Kind: impl.NdDelete, Name: "one", Kids: none}, fields("one.x int"), impl.OK, 0)
		if yes, got := impl.Grouped(query(item(count), from("t"))); !yes || got != impl.OK {
			t.Error("Grouped", yes, got)
		}
	}
}

// Trees that have themselves within, and such as are far beyond all bounds.
func TestTypesOfGreatTrees(t *testing.T) {
	knot := make([]impl.Tree, 2)
	knot[0], knot[1] = impl.Tree{Kind: impl.NdUnary, Name: "-", Kids: knot[:1]}, impl.Tree{Kind: impl.NdBinary, Name: "+", Kids: knot}
	deep := make([]impl.Tree, 1000000)
	for i := range deep[1:] {
		deep[i+1] = impl.Tree{Kind: impl.NdUnary, Name: "-", Kids: deep[i : i+1]}
	}
	twice := []impl.Tree{field("i"), field("i")}
	for range 40 {
		twice = slices.Repeat([]impl.Tree{{Kind: impl.NdBinary, Name: "+", Kids: twice}}, 2)
	}
	for _, e := range []impl.Tree{knot[0], knot[1], deep[len(deep)-1], twice[0], {Kind: impl.NdAgg, Name: "count", Kids: make([]impl.Tree, impl.MaxList+1)}} {
		if kind, got, at := impl.TypeOf(e, everyType()); kind != 0 || got != impl.ErrBad || at != 0 {
			t.Error("TypeOf", kind, got, at)
		}
		for _, n := range []impl.Tree{queryOf(e), insertInto("one", e), updateOf("one", setTo("x", e)), deleteFrom("one", where(e)), query(item(field("x")), from("one"), rising(e))} {
			scope, got, _ := impl.ScopeOf(typedTables(), n)
			told, got2, _ := impl.CheckSql(n, typedTables())
			yes, got3 := impl.Grouped(n)
			if len(scope)+len(told) != 0 || yes || got != impl.ErrBad || got2 != impl.ErrBad || got3 != impl.ErrBad {
				t.Error("a great tree is right", got, got2, got3)
			}
		}
	}
}
