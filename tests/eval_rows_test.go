package tests

import (
	"math"
	"slices"
	"testing"

	"loop.example/g00208/impl"
)

// line is a row of everyType.
func line(f, i, t, b impl.Value) []impl.Value { return row(impl.Value{}, f, i, t, b) }

func TestRowsOfExpressions(t *testing.T) {
	null := impl.Value{}
	some := line(flag(1), num(3), text("ab"), raw("\x01"))
	none := line(null, null, null, null)
	for _, c := range []struct {
		s    string
		a, b impl.Value // of some, and of none
	}{
		{"7", num(7), num(7)}, {"999999999999999999", num(999999999999999999), num(999999999999999999)}, {"'it''s'", text("it's"), text("it's")}, {"x'00ff'", raw("\x00\xff"), raw("\x00\xff")}, {"true", flag(1), flag(1)}, {"false", flag(0), flag(0)}, {"null", null, null},
		{"nothing", null, null}, {"f", flag(1), null}, {"i", num(3), null}, {"t", text("ab"), null}, {"b", raw("\x01"), null},
		{"-i", num(-3), null}, {"--i", num(3), null}, {"-null", null, null}, {"-nothing", null, null}, {"not f", flag(0), null}, {"not not f", flag(1), null}, {"not null", null, null}, {"not nothing", null, null},
		{"i is null", flag(0), flag(1)}, {"i is not null", flag(1), flag(0)}, {"nothing is null", flag(1), flag(1)}, {"(i + null) is null", flag(1), flag(1)}, {"(i = 3) is null", flag(0), flag(1)}, {"(f or true) is null", flag(0), flag(0)}, {"(f and false) is not null", flag(1), flag(1)}, {"'a' is null", flag(0), flag(0)},
		{"i + 2 * 4", num(11), null}, {"(i + 2) * 4", num(20), null}, {"10 - i - 2", num(5), null}, {"10 - (i - 2)", num(9), null}, {"100 / i / 2", num(16), null}, {"7 % i", num(1), null}, {"-7 % i", num(-1), null}, {"-7 / i", num(-2), null}, {"7 / -i * i + 7 % -i", num(-5), null}, {"i * i * i - i", num(24), null}, {"0 * i", num(0), null}, {"null / 0", null, null}, {"nothing % (i - i)", null, null},
		{"i = 3", flag(1), null}, {"i <> 3", flag(0), null}, {"i < 3", flag(0), null}, {"i <= 3", flag(1), null}, {"i > 3", flag(0), null}, {"i >= 3", flag(1), null}, {"t = 'ab'", flag(1), null}, {"t < 'b'", flag(1), null}, {"t >= 'abc'", flag(0), null}, {"b > x''", flag(1), null}, {"b < x'0100'", flag(1), null}, {"f = true", flag(1), null}, {"f > false", flag(1), null}, {"null = null", null, null}, {"nothing = t", null, null}, {"i = null", null, null}, {"(i = 3) = (t = 'ab')", flag(1), null},
		{"f and i = 3", flag(1), null}, {"f and i = 4", flag(0), null}, {"not f or i = 3", flag(1), null}, {"f or null", flag(1), null}, {"f and null", null, null}, {"not f and null", flag(0), null}, {"not f or null", null, null}, {"i = 3 or t is null", flag(1), flag(1)}, {"i = 4 and t is null", flag(0), null}, {"t is not null and i = 3 and not b = x''", flag(1), flag(0)}, {"f or true", flag(1), flag(1)}, {"f and false", flag(0), flag(0)}, {"not (f and false)", flag(1), flag(1)},
	} {
		wantEval(t, expr(t, c.s), everyType(), some, c.a, impl.OK)
		wantEval(t, expr(t, c.s), everyType(), none, c.b, impl.OK)
	}
}

// A column's value stands where its field stands.
func TestRowsByNames(t *testing.T) {
	scope := fields("x.id int, x.n int, y.id int, y.m text, alone bool, z.alone int")
	r := row(num(1), num(2), num(3), text("m"), flag(1), num(6))
	for _, c := range []struct {
		s    string
		want impl.Value
		code int
	}{
		{"x.id", num(1), 0}, {"n", num(2), 0}, {"x.n", num(2), 0}, {"y.id", num(3), 0}, {"m", text("m"), 0}, {"y.m", text("m"), 0}, {"z.alone", num(6), 0}, {"x.id + y.id * n", num(7), 0}, {"z.alone - x.n - x.id", num(3), 0}, {"y.id - x.id = n and m = 'm'", flag(1), 0},
		{"id", impl.Value{}, impl.ErrTwice}, {"alone", impl.Value{}, impl.ErrTwice}, {"y.n", impl.Value{}, impl.ErrName}, {"none", impl.Value{}, impl.ErrName}, {"none.id", impl.Value{}, impl.ErrName}, {"1 / 0 + none", impl.Value{}, impl.ErrName}, {"1 / 0 = m", impl.Value{}, impl.ErrType}, {"m + none", impl.Value{}, impl.ErrName}, {"m + id", impl.Value{}, impl.ErrTwice},
	} {
		wantEval(t, expr(t, c.s), scope, r, c.want, c.code)
	}
	wide := manyFields(16)
	var values []impl.Value
	for i, f := range wide {
		list := append(valuesOfType(f.Type), impl.Value{})
		values = append(values, list[i%len(list)])
	}
	for i, f := range wide {
		wantEval(t, impl.Tree{Kind: impl.NdCol, Name: f.Name, Of: f.Of}, wide, values, values[i], impl.OK)
	}
}

// Faults of values: both operands are worked out, the left one's fault counts, that of a sign comes behind those of its operands.
func TestFaultsInRows(t *testing.T) {
	r := line(flag(1), num(greatest), text("a"), impl.Value{})
	for _, c := range []struct {
		s    string
		code int
	}{
		{"1 / 0", impl.ErrZero}, {"1 % 0", impl.ErrZero}, {"i + 1", impl.ErrRange}, {"i * 2", impl.ErrRange}, {"-i - 2", impl.ErrRange}, {"-(-i - 1)", impl.ErrRange}, {"(-i - 1) / -1", impl.ErrRange}, {"(-i - 1) * -1", impl.ErrRange}, {"0 - (-i - 1)", impl.ErrRange},
		{"1 / 0 + (i + 1)", impl.ErrZero}, {"(i + 1) + 1 / 0", impl.ErrRange}, {"1 + 1 / 0", impl.ErrZero}, {"1 / 0 + 1", impl.ErrZero}, {"i + 1 / 0", impl.ErrZero}, {"(i + 1) / 0", impl.ErrRange}, {"i * (1 / 0)", impl.ErrZero}, {"(i + 1) * 0", impl.ErrRange}, {"0 * (i + 1)", impl.ErrRange}, {"(1 / 0) / (i - i)", impl.ErrZero}, {"(i + i) / (i - i)", impl.ErrRange}, {"1 / (i - i) * (i + i)", impl.ErrZero},
		{"1 / 0 = 1 or true", impl.ErrZero}, {"true or 1 / 0 = 1", impl.ErrZero}, {"false and 1 / 0 = 1", impl.ErrZero}, {"1 / 0 = 1 and false", impl.ErrZero}, {"f or i + 1 = 1", impl.ErrRange}, {"not f and i + 1 = 1", impl.ErrRange}, {"i + 1 = 1 or 1 / 0 = 1", impl.ErrRange}, {"1 / 0 = 1 or i + 1 = 1", impl.ErrZero}, {"null and 1 / 0 = 1", impl.ErrZero}, {"f or f or f or 1 % 0 = 1", impl.ErrZero},
		{"null + 1 / 0", impl.ErrZero}, {"1 / 0 + null", impl.ErrZero}, {"null = 1 / 0", impl.ErrZero}, {"1 / 0 = null", impl.ErrZero}, {"nothing * (i + 1)", impl.ErrRange}, {"(1 / 0) is null", impl.ErrZero}, {"(i + 1) is not null", impl.ErrRange}, {"not (1 / 0 = 1)", impl.ErrZero}, {"-(1 / 0)", impl.ErrZero}, {"-(i + 1)", impl.ErrRange}, {"1 / 0 < i + 1", impl.ErrZero}, {"i + 1 < 1 / 0", impl.ErrRange}, {"t = 'a' and (b is null or 1 / 0 > 0)", impl.ErrZero},
	} {
		wantEval(t, expr(t, c.s), everyType(), r, impl.Value{}, c.code)
	}
	least := line(impl.Value{}, num(math.MinInt), impl.Value{}, impl.Value{})
	wantEval(t, expr(t, "-i"), everyType(), least, impl.Value{}, impl.ErrRange)
	wantEval(t, expr(t, "i % -1"), everyType(), least, num(0), impl.OK)
	wantEval(t, expr(t, "i / -1"), everyType(), least, impl.Value{}, impl.ErrRange)
	wantEval(t, expr(t, "-1 - i"), everyType(), least, num(math.MaxInt), impl.OK)
}

// operandTexts are expressions of a type that have no fault, or one.
func operandTexts(kind int) map[string]int {
	if kind == impl.VaBool {
		return map[string]int{"true": impl.OK, "f": impl.OK, "null": impl.OK, "1 / 0 = 1": impl.ErrZero, "i + 1 > 0": impl.ErrRange}
	}
	return map[string]int{"2": impl.OK, "i": impl.OK, "null": impl.OK, "1 / 0": impl.ErrZero, "i + 1": impl.ErrRange}
}

// Each sign has operands with the fault of the left one, of the right one, of both, and of none.
func TestFaultsOfOperands(t *testing.T) {
	r := line(flag(0), num(greatest), impl.Value{}, impl.Value{})
	for _, sign := range binarySigns {
		kind := map[bool]int{true: impl.VaBool, false: impl.VaInt}[sign == "and" || sign == "or"]
		for left, a := range operandTexts(kind) {
			for right, b := range operandTexts(kind) {
				e := pair(expr(t, left), sign, expr(t, right))
				want, wanted := evalByWords(e, everyType(), r)
				if a != impl.OK && wanted != a || a == impl.OK && b != impl.OK && wanted != b {
					t.Error("the words tell", wanted, "of", left, sign, right)
				}
				wantEval(t, e, everyType(), r, want, wanted)
			}
		}
	}
	for _, name := range unarySigns {
		kind := map[bool]int{true: impl.VaBool, false: impl.VaInt}[name == "not"]
		for operand, a := range operandTexts(kind) {
			e := unary(name, expr(t, operand))
			want, wanted := evalByWords(e, everyType(), r)
			if a != impl.OK && wanted != a {
				t.Error("the words tell", wanted, "of", name, operand)
			}
			wantEval(t, e, everyType(), r, want, wanted)
		}
	}
}

// TypeOf's codes come first, then ErrBad of an aggregate or the row, then faults of values.
func TestOrderOfCodesOfRows(t *testing.T) {
	scope := everyType()
	right := line(flag(1), num(0), text("a"), raw("b"))
	wrong := line(flag(1), text("0"), text("a"), raw("b"))
	long := make([]impl.Value, impl.MaxList+1)
	for _, c := range []struct {
		s           string
		right, tail int // of a right row, and of one that is not
	}{
		{"i + t", impl.ErrType, impl.ErrType}, {"none", impl.ErrName, impl.ErrName}, {"count(*) + t", impl.ErrType, impl.ErrType}, {"sum(none)", impl.ErrName, impl.ErrName}, {"1 / 0 = 'a'", impl.ErrType, impl.ErrType}, {"1 / 0 + none", impl.ErrName, impl.ErrName}, {"count(*) / 0 and f", impl.ErrType, impl.ErrType},
		{"count(*)", impl.ErrBad, impl.ErrBad}, {"count(i)", impl.ErrBad, impl.ErrBad}, {"sum(i)", impl.ErrBad, impl.ErrBad}, {"min(t)", impl.ErrBad, impl.ErrBad}, {"max(b)", impl.ErrBad, impl.ErrBad}, {"1 / 0 + count(*)", impl.ErrBad, impl.ErrBad}, {"count(*) + 1 / 0", impl.ErrBad, impl.ErrBad}, {"sum(1 / 0)", impl.ErrBad, impl.ErrBad}, {"f or not (t = 'a' and (i = 1 or -max(i) = 2))", impl.ErrBad, impl.ErrBad},
		{"1 / i", impl.ErrZero, impl.ErrBad}, {"1 % 0", impl.ErrZero, impl.ErrBad}, {"1", impl.OK, impl.ErrBad}, {"f", impl.OK, impl.ErrBad}, {"i", impl.OK, impl.ErrBad}, {"999999999999999999 * 999999999999999999", impl.ErrRange, impl.ErrBad},
	} {
		e := expr(t, c.s)
		want, wanted := evalByWords(e, scope, right)
		if wanted != c.right {
			t.Error("the words tell", wanted, "of", c.s)
		}
		wantEval(t, e, scope, right, want, c.right)
		wantEval(t, e, scope, wrong, impl.Value{}, c.tail)
		wantEval(t, e, scope, right[:4], impl.Value{}, c.tail)
		wantEval(t, e, scope, long, impl.Value{}, impl.ErrLong)
		wantEval(t, e, scope, long[:impl.MaxList], impl.Value{}, c.tail)
		wantEval(t, e, manyFields(17), right, impl.Value{}, impl.ErrBad)
		wantEval(t, e, manyFields(impl.MaxList), wrong, impl.Value{}, impl.ErrBad)
		wantEval(t, e, manyFields(impl.MaxList+1), right, impl.Value{}, impl.ErrLong)
		wantEval(t, e, manyFields(17), long, impl.Value{}, impl.ErrLong)
	}
	for _, e := range []impl.Tree{{}, item(field("i")), queryOf(field("i")), unary("+", field("i")), pair(field("i"), "==", field("i")), agg("sum"), agg("sum", agg("sum", field("i"))), lit(num(-1)), lit(flag(2)), field("select"), chain(impl.MaxDeep + 1), broad(impl.MaxTree + 1)} {
		wantEval(t, e, scope, right, impl.Value{}, impl.ErrBad)
		wantEval(t, e, scope, nil, impl.Value{}, impl.ErrBad)
		wantEval(t, e, scope, long, impl.Value{}, impl.ErrLong)
		wantEval(t, e, manyFields(impl.MaxList+1), nil, impl.Value{}, impl.ErrLong)
	}
}

func TestRowsThatDoNotFit(t *testing.T) {
	for _, scope := range someScopes() {
		d := &dice{state: 140}
		right := rolledLine(d, scope, 4)
		one := lit(num(1))
		wantEval(t, one, scope, right, num(1), impl.OK)
		wantEval(t, one, scope, append(slices.Clone(right), impl.Value{}), impl.Value{}, impl.ErrBad)
		wantEval(t, one, append(slices.Clone(scope), impl.Field{Name: "more"}), right, impl.Value{}, impl.ErrBad)
		for i, f := range scope {
			wantEval(t, one, scope, right[:i], impl.Value{}, impl.ErrBad)
			wantEval(t, one, scope, slices.Delete(slices.Clone(right), i, i+1), impl.Value{}, impl.ErrBad)
			for _, v := range append(risingValues(), wrongValues()...) {
				bent := slices.Clone(right)
				bent[i] = v
				want, wanted := num(1), impl.OK
				if !valueRight(v) || v.Kind != impl.VaNull && v.Kind != f.Type {
					want, wanted = impl.Value{}, impl.ErrBad
				}
				wantEval(t, one, scope, bent, want, wanted)
			}
		}
	}
}

func TestRowsOfWrongFields(t *testing.T) {
	for _, f := range wrongFields() {
		for _, v := range []impl.Value{{}, num(1), text("a"), {Kind: f.Type}} {
			wantEval(t, lit(num(1)), []impl.Field{f}, row(v), impl.Value{}, impl.ErrBad)
			wantEval(t, lit(num(1)), []impl.Field{{Name: "a", Type: impl.VaInt}, f}, row(num(1), v), impl.Value{}, impl.ErrBad)
		}
	}
	for _, none := range [][]impl.Field{nil, {}} {
		for _, r := range [][]impl.Value{nil, {}} {
			wantEval(t, expr(t, "1 + 2 = 3"), none, r, flag(1), impl.OK)
			wantEval(t, field("a"), none, r, impl.Value{}, impl.ErrName)
		}
	}
	nulls := make([]impl.Value, 16)
	wantEval(t, lit(num(1)), manyFields(16), nulls, num(1), impl.OK)
	wantEval(t, lit(num(1)), manyFields(17), append(nulls, impl.Value{}), impl.Value{}, impl.ErrBad)
}

func TestBoundsOfRows(t *testing.T) {
	scope := fields("i int, a int, b int")
	r := row(num(1), num(1), num(1))
	for deep := 1; deep <= impl.MaxDeep+2; deep++ {
		for _, e := range []impl.Tree{chain(deep), stair(deep)} {
			want, wanted := evalByWords(e, scope, r)
			if (wanted == impl.OK) != (deep <= impl.MaxDeep) {
				t.Error("the words tell", wanted, "of", deep)
			}
			wantEval(t, e, scope, r, want, wanted)
		}
	}
	for size := 1; size <= impl.MaxTree+3; size += 2 {
		want, wanted := num((size+1)/2), impl.OK
		if size > impl.MaxTree {
			want, wanted = impl.Value{}, impl.ErrBad
		}
		wantEval(t, broad(size), scope, r, want, wanted)
	}
}
