package tests

import (
	"slices"
	"testing"

	"loop.example/g00208/impl"
)

// wantSameEval holds an expression's value of a row against the document's words.
func wantSameEval(t *testing.T, e impl.Tree, scope []impl.Field, r []impl.Value) int {
	t.Helper()
	want, wanted := evalByWords(e, scope, r)
	wantEval(t, e, scope, r, want, wanted)
	return wanted
}

func TestRolledExpressionsOfRows(t *testing.T) {
	count := map[int]int{}
	for i, scope := range someScopes() {
		for _, slip := range []int{0, 0, 12, 40} {
			r := &roller{dice: dice{state: uint64(161 + i)}, scope: scope, slip: slip}
			for range 500 {
				e := r.expr(r.kind(), 1+r.below(30), r.below(8) == 0)
				line := rolledLine(&r.dice, scope, 5)
				count[wantSameEval(t, e, scope, line)]++
				count[wantSameEval(t, e, scope, rolledLine(&r.dice, scope, 100))]++
				if len(line) > 0 {
					line[r.below(len(line))] = append(risingValues(), wrongValues()...)[r.below(90)]
					count[wantSameEval(t, e, scope, line)]++
				}
				all := nodesOf(&e)
				bendNode(&r.dice, all[r.below(len(all))])
				count[wantSameEval(t, e, scope, rolledLine(&r.dice, scope, 5))]++
			}
		}
	}
	for _, code := range []int{impl.OK, impl.ErrBad, impl.ErrName, impl.ErrTwice, impl.ErrType, impl.ErrZero, impl.ErrRange} {
		if count[code] < 200 {
			t.Error("few of", impl.CodeWord(code), count)
		}
	}
}

// faultsOf are those that an expression may have: by 0 what divides, out of range what reckons.
func faultsOf(e impl.Tree) []int {
	var list []int
	for _, p := range nodesOf(&e) {
		switch {
		case p.Kind == impl.NdBinary && (p.Name == "/" || p.Name == "%"):
			list = append(list, impl.ErrZero, impl.ErrRange)
		case p.Kind >= impl.NdUnary && (p.Name == "-" || p.Name == "+" || p.Name == "*"):
			list = append(list, impl.ErrRange)
		}
	}
	return list
}

// An expression that has a type has values of that type, or null, or a fault that it may have; one that has none has no value.
func TestTypedExpressionsHaveTypedValues(t *testing.T) {
	count := map[int]int{}
	for i, scope := range someScopes() {
		for _, slip := range []int{0, 20} {
			r := &roller{dice: dice{state: uint64(170 + i)}, scope: scope, slip: slip}
			for range 600 {
				e := r.expr(r.kind(), 1+r.below(25), false)
				kind, typed, _ := impl.TypeOf(e, scope)
				line := rolledLine(&r.dice, scope, 6)
				v, got := impl.EvalRow(e, scope, line)
				switch {
				case typed != impl.OK && got != typed, typed == impl.OK && got != impl.OK && !slices.Contains(faultsOf(e), got), got != impl.OK && v != (impl.Value{}), !impl.ValueOK(v), v.Kind != impl.VaNull && v.Kind != kind:
					t.Fatalf("%s is of type %d %s, but of %v it is %v %s", drawn(e), kind, impl.CodeWord(typed), line, v, impl.CodeWord(got))
				}
				if got == impl.OK {
					count[v.Kind]++
				}
			}
		}
	}
	for kind := impl.VaNull; kind <= impl.VaBytes; kind++ {
		if count[kind] < 200 {
			t.Error("few of", typeNames[kind], count)
		}
	}
}

// One sign with two columns is what BinaryValue makes of their values.
func TestRowsOfOneSign(t *testing.T) {
	for _, a := range someValues() {
		for _, kind := range []int{impl.VaNull, impl.VaBool, impl.VaInt, impl.VaText, impl.VaBytes} {
			scope := []impl.Field{{Name: "a", Type: a.Kind}, {Name: "b", Type: kind}}
			for _, b := range append(valuesOfType(kind), impl.Value{}) {
				for _, sign := range binarySigns {
					v, got := impl.EvalRow(pair(field("a"), sign, field("b")), scope, row(a, b))
					want, wanted := impl.BinaryValue(sign, a, b)
					if _, typed, _ := impl.TypeOf(pair(field("a"), sign, field("b")), scope); typed != impl.OK {
						want, wanted = impl.Value{}, typed
					}
					if v != want || got != wanted {
						t.Errorf("%v %s %v: %v %d, want %v %d", a, sign, b, v, got, want, wanted)
					}
				}
			}
		}
		for _, name := range unarySigns {
			want, wanted := impl.UnaryValue(name, a)
			wantEval(t, unary(name, field("a")), []impl.Field{{Name: "a", Type: a.Kind}}, row(a), want, wanted)
		}
	}
}

// conditionsAndLines calls do with what rolls expressions of some fields, and with rows of these.
func conditionsAndLines(state uint64, nulls int, do func(r *roller, scope []impl.Field, line []impl.Value)) {
	for i, scope := range someScopes() {
		r := &roller{dice: dice{state: state + uint64(i)}, scope: scope}
		for range 300 {
			do(r, scope, rolledLine(&r.dice, scope, nulls))
		}
	}
}

// wantAlike asks for the same value, or the same fault, of two expressions.
func wantAlike(t *testing.T, a, b impl.Tree, scope []impl.Field, line []impl.Value) (impl.Value, int) {
	t.Helper()
	v, got := impl.EvalRow(a, scope, line)
	wantEval(t, b, scope, line, v, got)
	return v, got
}

func TestLawsOfConditions(t *testing.T) {
	count := map[string]int{}
	not := func(e impl.Tree) impl.Tree { return unary("not", e) }
	conditionsAndLines(180, 3, func(r *roller, scope []impl.Field, line []impl.Value) {
		a, b := r.expr(impl.VaBool, 1+r.below(12), false), r.expr(impl.VaBool, 1+r.below(12), false)
		v, got := wantAlike(t, not(pair(a, "and", b)), pair(not(a), "or", not(b)), scope, line)
		wantAlike(t, not(pair(a, "or", b)), pair(not(a), "and", not(b)), scope, line)
		wantAlike(t, not(not(a)), a, scope, line)
		if got == impl.OK {
			wantAlike(t, pair(a, "and", b), pair(b, "and", a), scope, line)
			wantAlike(t, pair(a, "or", b), pair(b, "or", a), scope, line)
		}
		kind := r.kind()
		x, y := r.expr(kind, 1+r.below(8), false), r.expr(kind, 1+r.below(8), false)
		for sign, against := range map[string]string{"=": "<>", "<": ">=", "<=": ">"} {
			wantAlike(t, not(pair(x, sign, y)), pair(x, against, y), scope, line)
		}
		wantAlike(t, unary("isnull", x), not(unary("isnotnull", x)), scope, line)
		if got != impl.OK {
			count["fault"]++
		} else {
			count[letterOfBool(v)]++
		}
	})
	for _, what := range []string{"f", "t", "n", "fault"} {
		if count[what] < 100 {
			t.Error("few of", what, count)
		}
	}
}

// What an expression tells where something is null, it tells whatever stands in its place, or there is a fault; but for those that ask whether it is null.
func TestWhatIsToldWithNullStays(t *testing.T) {
	told := 0
	conditionsAndLines(190, 3, func(r *roller, scope []impl.Field, line []impl.Value) {
		e := r.expr(r.kind(), 1+r.below(14), false)
		if slices.ContainsFunc(nodesOf(&e), func(p *impl.Tree) bool { return p.Name == "isnull" || p.Name == "isnotnull" }) {
			return
		}
		v, got := impl.EvalRow(e, scope, line)
		if got != impl.OK || v.Kind == impl.VaNull || !slices.Contains(line, impl.Value{}) {
			return
		}
		other := rolledLine(&r.dice, scope, 1000)
		for i := range line {
			if line[i].Kind != impl.VaNull {
				other[i] = line[i]
			}
		}
		if w, code := impl.EvalRow(e, scope, other); code == impl.OK && w != v || code != impl.OK && !slices.Contains(faultsOf(e), code) {
			t.Errorf("%s is %v of %v, but %v %d of %v", drawn(e), v, line, w, code, other)
		}
		told++
	})
	if told < 200 {
		t.Error("few are told", told)
	}
}

// An aggregate of some values, and of the same ones with more that are null, or in another order.
func TestAggregatesPassOverNull(t *testing.T) {
	d := &dice{state: 195}
	for range 2000 {
		kind := 1 + d.below(4)
		var list, more []impl.Value
		for range d.below(8) {
			v := valuesOfType(kind)[d.below(len(valuesOfType(kind)))]
			list = append(list, v)
			more = append(more, v)
			for d.below(2) == 0 {
				more = slices.Insert(more, d.below(len(more)+1), impl.Value{})
			}
		}
		for _, name := range aggregates {
			v, got := impl.AggValue(name, list)
			wantAggregate(t, name, more, v, got)
			back := slices.Clone(more)
			slices.Reverse(back)
			if w, other := impl.AggValue(name, back); (w != v || other != got) && got != impl.ErrRange && other != impl.ErrRange {
				t.Errorf("%s of %v: %v %d, back %v %d", name, list, v, got, w, other)
			}
		}
	}
}
