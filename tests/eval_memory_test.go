package tests

import (
	"reflect"
	"slices"
	"strings"
	"testing"

	"loop.example/g00208/impl"
)

// someLines are rows of fields, right ones and others.
func someLines(scope []impl.Field) [][]impl.Value {
	d := &dice{state: 201}
	list := [][]impl.Value{nil, row(num(1)), make([]impl.Value, impl.MaxList), make([]impl.Value, impl.MaxList+1)}
	for range 4 {
		if len(scope) <= 16 && scopeRight(scope) {
			list = append(list, rolledLine(d, scope, 4))
		}
	}
	for _, v := range wrongValues()[:3] {
		list = append(list, slices.Repeat(row(v), min(len(scope), 20)))
	}
	return list
}

// askedOfEval are all calls of chapter 13 with some arguments.
func askedOfEval() []func() []any {
	var calls []func() []any
	ask := func(f func() []any) { calls = append(calls, f) }
	for _, a := range []int{least, least + 1, -7, -1, 0, 1, 2, 1 << 32, greatest - 1, greatest} {
		for _, b := range []int{least, -1, 0, 1, 3, 1 << 31, greatest} {
			ask(func() []any { n, c := impl.AddInts(a, b); return []any{n, c} })
			ask(func() []any { n, c := impl.MulInts(a, b); return []any{n, c} })
			ask(func() []any { q, r, c := impl.DivInts(a, b); return []any{q, r, c} })
		}
	}
	names := slices.Concat(binarySigns, unarySigns, aggregates, []string{"", "xor", strings.Repeat("-", impl.MaxText+1)})
	for _, name := range names {
		for _, a := range append(someValues(), wrongValues()[:4]...) {
			ask(func() []any { v, c := impl.UnaryValue(name, a); return []any{v, c} })
			for _, b := range []impl.Value{{}, flag(1), num(0), num(-1), num(least), text("a"), raw("a"), flag(2)} {
				ask(func() []any { v, c := impl.BinaryValue(name, a, b); return []any{v, c} })
			}
		}
		for _, list := range append(someRows(), someLines(everyType())...) {
			ask(func() []any { v, c := impl.AggValue(name, list); return []any{v, c} })
		}
	}
	for _, scope := range fieldLists() {
		for _, e := range someExpressions() {
			for _, r := range someLines(scope) {
				ask(func() []any { v, c := impl.EvalRow(e, scope, r); return []any{v, c} })
			}
		}
	}
	return calls
}

func TestEvaluatedArgumentsStay(t *testing.T) {
	behind := impl.Value{Kind: 77, N: 7, T: "behind"}
	for _, fields := range fieldLists() {
		scope := roomy(fields, impl.Field{Of: "behind", Name: "behind", Type: 77})
		kept := slices.Clone(scope[:cap(scope)])
		for _, e := range someExpressions() {
			before := cloneTree(behindTree(e))
			for _, line := range someLines(fields) {
				r := roomy(line, behind)
				values := slices.Clone(r[:cap(r)])
				impl.EvalRow(e, scope, r)
				if !slices.Equal(r[:cap(r)], values) || !slices.Equal(scope[:cap(scope)], kept) {
					t.Fatalf("%.500s: the row or its fields were changed", drawn(before))
				}
			}
			if !reflect.DeepEqual(cloneTree(behindTree(e)), before) {
				t.Fatalf("%.500s was changed", drawn(before))
			}
		}
	}
	d := &dice{state: 202}
	all := append(someValues(), make([]impl.Value, 12)...)
	for range 400 {
		list := roomy(slices.Repeat(row(all[d.below(len(all))], all[d.below(len(all))], impl.Value{}, all[d.below(len(all))]), d.below(4)), behind)
		kept := slices.Clone(list[:cap(list)])
		for _, name := range append(slices.Clone(aggregates), "none") {
			impl.AggValue(name, list)
			if !slices.Equal(list[:cap(list)], kept) {
				t.Fatalf("%s: %v was changed to %v", name, kept, list[:cap(list)])
			}
		}
	}
}

// What was answered stays, whatever becomes of the arguments.
func TestValuesThatAreAnsweredStay(t *testing.T) {
	for _, e := range someExpressions() {
		tree := cloneTree(e)
		scope := everyType()
		r := line(flag(1), num(2), text("ab"), raw("c"))
		v, got := impl.EvalRow(e, scope, r)
		scribbleTree(e)
		scribbleList(r, impl.Value{Kind: -1, T: "scribbled"})
		scribbleList(scope, impl.Field{Name: "scribbled", Type: -1})
		wantEval(t, tree, everyType(), line(flag(1), num(2), text("ab"), raw("c")), v, got)
	}
	for _, name := range aggregates {
		list := row(text("b"), text("a"), impl.Value{}, text("c"))
		v, got := impl.AggValue(name, list)
		scribbleList(list, text("scribbled"))
		wantAggregate(t, name, row(text("b"), text("a"), impl.Value{}, text("c")), v, got)
	}
}

// Trees that have themselves within, and such as are far beyond all bounds.
func TestRowsOfGreatTrees(t *testing.T) {
	knot := make([]impl.Tree, 2)
	knot[0], knot[1] = impl.Tree{Kind: impl.NdUnary, Name: "-", Kids: knot[:1]}, impl.Tree{Kind: impl.NdBinary, Name: "+", Kids: knot}
	deep := make([]impl.Tree, 1000000)
	for i := range deep[1:] {
		deep[i+1] = impl.Tree{Kind: impl.NdUnary, Name: "-", Kids: deep[i : i+1]}
	}
	twice := []impl.Tree{field("i"), field("i")}
	for range 40 {
		twice = slices.Repeat([]impl.Tree{{Kind: impl.NdBinary, Name: "+", Kids: twice}}, 2)
	}
	r := line(flag(1), num(2), text("ab"), raw("c"))
	for _, e := range []impl.Tree{knot[0], knot[1], deep[len(deep)-1], twice[0], {Kind: impl.NdAgg, Name: "count", Kids: make([]impl.Tree, impl.MaxList+1)}} {
		if v, got := impl.EvalRow(e, everyType(), r); v != (impl.Value{}) || got != impl.ErrBad {
			t.Error("EvalRow", v, got)
		}
		if v, got := impl.EvalRow(e, everyType(), make([]impl.Value, impl.MaxList+1)); v != (impl.Value{}) || got != impl.ErrLong {
			t.Error("EvalRow", v, got)
		}
	}
}
