package tests

import (
	"math"
	"slices"
	"testing"

	"loop.example/g00208/impl"
)

// operands are, of a type, a column, a literal that is not null, and expressions that are of it.
func operands(t *testing.T, kind int) []impl.Tree {
	texts := [][]string{
		{"nothing", "null", "min(null)", "max(nothing)"},
		{"f", "true", "not f", "i = 1", "t is null", "f and false", "max(f)", "null or null", "null = null", "not null"},
		{"i", "7", "-i", "i + 1", "i * i", "count(*)", "count(t)", "sum(i)", "min(i)", "-null", "null + null", "null % nothing", "sum(null)"},
		{"t", "'a'", "min(t)"},
		{"b", "x'00'", "max(b)"},
	}
	var list []impl.Tree
	for _, s := range texts[kind] {
		list = append(list, expr(t, s))
	}
	return list
}

// eachPair calls do with all pairs of operands, and their types.
func eachPair(t *testing.T, do func(left, right impl.Tree, a, b int)) {
	for a := impl.VaNull; a <= impl.VaBytes; a++ {
		for b := impl.VaNull; b <= impl.VaBytes; b++ {
			for _, left := range operands(t, a) {
				for _, right := range operands(t, b) {
					do(left, right, a, b)
				}
			}
		}
	}
}

func TestTypesOfOperands(t *testing.T) {
	for kind := impl.VaNull; kind <= impl.VaBytes; kind++ {
		for _, e := range operands(t, kind) {
			wantType(t, e, everyType(), kind, impl.OK, 0)
		}
	}
}

// wantOperands asks for a result where both operands may be, else for ErrType at the first that may not.
func wantOperands(t *testing.T, e impl.Tree, kind int, left, right bool) {
	t.Helper()
	switch {
	case !left:
		wantType(t, e, everyType(), 0, impl.ErrType, 1)
	case !right:
		wantType(t, e, everyType(), 0, impl.ErrType, 1+impl.TreeSize(e.Kids[0]))
	default:
		wantType(t, e, everyType(), kind, impl.OK, 0)
	}
}

func TestTypesOfSigns(t *testing.T) {
	isOr := func(kind, other int) bool { return kind == impl.VaNull || kind == other }
	eachPair(t, func(left, right impl.Tree, a, b int) {
		for _, sign := range []string{"+", "-", "*", "/", "%"} {
			wantOperands(t, pair(left, sign, right), impl.VaInt, isOr(a, impl.VaInt), isOr(b, impl.VaInt))
		}
		for _, sign := range []string{"and", "or"} {
			wantOperands(t, pair(left, sign, right), impl.VaBool, isOr(a, impl.VaBool), isOr(b, impl.VaBool))
		}
		for _, sign := range []string{"=", "<>", "<", "<=", ">", ">="} {
			wantOperands(t, pair(left, sign, right), impl.VaBool, true, a == b || a == impl.VaNull || b == impl.VaNull)
		}
	})
}

func TestTypesOfUnarySignsAndAggregates(t *testing.T) {
	for kind := impl.VaNull; kind <= impl.VaBytes; kind++ {
		isInt, isBool := kind == impl.VaInt || kind == impl.VaNull, kind == impl.VaBool || kind == impl.VaNull
		for _, e := range operands(t, kind) {
			wantOperands(t, unary("-", e), impl.VaInt, isInt, true)
			wantOperands(t, unary("not", e), impl.VaBool, isBool, true)
			wantOperands(t, unary("isnull", e), impl.VaBool, true, true)
			wantOperands(t, unary("isnotnull", e), impl.VaBool, true, true)
			if !exprRight(agg("sum", e)) {
				continue // an aggregate stands in it
			}
			wantOperands(t, agg("count", e), impl.VaInt, true, true)
			wantOperands(t, agg("sum", e), impl.VaInt, isInt, true)
			wantOperands(t, agg("min", e), kind, true, true)
			wantOperands(t, agg("max", e), kind, true, true)
		}
	}
	wantType(t, agg("count"), everyType(), impl.VaInt, impl.OK, 0)
	wantType(t, agg("count"), nil, impl.VaInt, impl.OK, 0)
}

func TestTypesOfLiterals(t *testing.T) {
	for _, v := range risingValues() {
		if v.Kind != impl.VaInt || v.N >= 0 && v.N <= 999999999999999999 {
			wantType(t, lit(v), nil, v.Kind, impl.OK, 0)
			wantType(t, lit(v), everyType(), v.Kind, impl.OK, 0)
		} else {
			wantType(t, lit(v), everyType(), 0, impl.ErrBad, 0)
			wantType(t, unary("-", lit(v)), everyType(), 0, impl.ErrBad, 0)
		}
	}
	for _, v := range wrongValues() {
		wantType(t, lit(v), everyType(), 0, impl.ErrBad, 0)
	}
}

func TestNamesInExpressions(t *testing.T) {
	scope := fields(casesFields + "," + notesFields + ", alone null, n.alone int")
	for _, c := range []struct {
		s             string
		kind          int
		wanted, place int
	}{
		{"status", impl.VaText, impl.OK, 0}, {"cases.status", impl.VaText, impl.OK, 0}, {"mark", impl.VaBytes, impl.OK, 0}, {"what", impl.VaText, impl.OK, 0}, {"cases.flag", impl.VaBool, impl.OK, 0}, {"cases.n", impl.VaInt, impl.OK, 0}, {"notes.n", impl.VaText, impl.OK, 0}, {"n.alone", impl.VaInt, impl.OK, 0},
		{"id", 0, impl.ErrTwice, 0}, {"n", 0, impl.ErrTwice, 0}, {"alone", 0, impl.ErrTwice, 0}, {"none", 0, impl.ErrName, 0}, {"cases.what", 0, impl.ErrName, 0}, {"notes.status", 0, impl.ErrName, 0}, {"none.id", 0, impl.ErrName, 0}, {"status.cases", 0, impl.ErrName, 0}, {"cases", 0, impl.ErrName, 0}, {"Status", 0, impl.ErrName, 0},
		{"-none", 0, impl.ErrName, 1}, {"sum(none)", 0, impl.ErrName, 1}, {"count(id)", 0, impl.ErrTwice, 1}, {"id is null", 0, impl.ErrTwice, 1}, {"none is not null", 0, impl.ErrName, 1}, {"not id", 0, impl.ErrTwice, 1},
		{"none + id", 0, impl.ErrName, 1}, {"id + none", 0, impl.ErrTwice, 1}, {"1 + id", 0, impl.ErrTwice, 2}, {"cases.id + 1 = notes.id * none", 0, impl.ErrName, 6}, {"cases.id + 1 = notes.id * 2 and (flag or none)", 0, impl.ErrTwice, 9}, {"max(mark) = min(status) or none", 0, impl.ErrType, 4},
	} {
		wantType(t, expr(t, c.s), scope, c.kind, c.wanted, c.place)
	}
	for _, none := range [][]impl.Field{nil, {}} {
		wantType(t, field("a"), none, 0, impl.ErrName, 0)
		wantType(t, pair(lit(num(1)), "+", field("t.a")), none, 0, impl.ErrName, 2)
	}
}

// Kids come ahead of what asks of them, the left one first.
func TestOrderOfFaultsInExpressions(t *testing.T) {
	for _, c := range []struct {
		s             string
		kind          int
		wanted, place int
	}{
		{"t + none", 0, impl.ErrName, 2}, {"none + t", 0, impl.ErrName, 1}, {"t + b", 0, impl.ErrType, 1}, {"i + b", 0, impl.ErrType, 2}, {"t + (i + f)", 0, impl.ErrType, 4}, {"(i + f) + t", 0, impl.ErrType, 3}, {"t + (f + b)", 0, impl.ErrType, 3}, {"t + -f", 0, impl.ErrType, 3}, {"t = (f = none)", 0, impl.ErrName, 4},
		{"not (t and (f or i))", 0, impl.ErrType, 5}, {"not (t and (f or f))", 0, impl.ErrType, 2}, {"not (f and i)", 0, impl.ErrType, 3}, {"not -t", 0, impl.ErrType, 2}, {"not -i", 0, impl.ErrType, 1}, {"-(not t)", 0, impl.ErrType, 2}, {"-(not f)", 0, impl.ErrType, 1},
		{"i = t", 0, impl.ErrType, 2}, {"t = i", 0, impl.ErrType, 2}, {"i + 1 = t", 0, impl.ErrType, 4}, {"t = i + 1", 0, impl.ErrType, 2}, {"i = t and t = i", 0, impl.ErrType, 3}, {"t and i = t", 0, impl.ErrType, 4}, {"i = 1 and t", 0, impl.ErrType, 4}, {"t and b", 0, impl.ErrType, 1}, {"t < b + i", 0, impl.ErrType, 3},
		{"sum(t)", 0, impl.ErrType, 1}, {"sum(t + i)", 0, impl.ErrType, 2}, {"sum(i + t)", 0, impl.ErrType, 3}, {"sum(not f)", 0, impl.ErrType, 1}, {"count(t + i)", 0, impl.ErrType, 2}, {"count(i = t)", 0, impl.ErrType, 3}, {"min(not t)", 0, impl.ErrType, 2}, {"max(t) + min(none)", 0, impl.ErrName, 4}, {"max(t) + min(f)", 0, impl.ErrType, 1}, {"max(i) + min(f)", 0, impl.ErrType, 3}, {"-(max(t) is null)", 0, impl.ErrType, 1}, {"(t + i) is null", 0, impl.ErrType, 2}, {"(none is null) + t", 0, impl.ErrName, 2},
		{"null + t", 0, impl.ErrType, 2}, {"t + null", 0, impl.ErrType, 1}, {"null and i", 0, impl.ErrType, 2}, {"i and null", 0, impl.ErrType, 1}, {"null = t", impl.VaBool, impl.OK, 0}, {"t = null", impl.VaBool, impl.OK, 0}, {"-null = t", 0, impl.ErrType, 3}, {"t = -null", 0, impl.ErrType, 2}, {"(null = null) = 1", 0, impl.ErrType, 4}, {"-null and f", 0, impl.ErrType, 1}, {"not (null + 1)", 0, impl.ErrType, 1}, {"min(null) + max(null)", impl.VaInt, impl.OK, 0}, {"min(null) and max(nothing)", impl.VaBool, impl.OK, 0}, {"sum(null) = 'a'", 0, impl.ErrType, 3},
	} {
		wantType(t, expr(t, c.s), everyType(), c.kind, c.wanted, c.place)
	}
	wantType(t, pair(pair(field("f"), "=", field("f")), "=", lit(impl.Value{})), everyType(), impl.VaBool, impl.OK, 0)
}

func TestExpressionsThatAreNotRight(t *testing.T) {
	a := field("i")
	var list []impl.Tree
	for _, c := range statementTrees {
		list = append(list, c.tree)
		for _, kid := range c.tree.Kids {
			if kid.Kind < impl.NdLit {
				list = append(list, kid)
			}
		}
	}
	list = append(list, impl.Tree{}, setTo("i", a), node(impl.NdLit, "", a), node(impl.NdCol, "i", a), node(impl.NdUnary, "-"), node(impl.NdUnary, "-", a, a), node(impl.NdBinary, "-", a), node(impl.NdBinary, "-", a, a, a), agg("sum"), agg("min"), agg("max"), agg("count", a, a), agg("avg", a), unary("+", a), unary("is", a), pair(a, "==", a), pair(a, "not", a),
		agg("sum", agg("count")), agg("count", unary("-", agg("min", a))), pair(a, "+", agg("max", pair(a, "*", agg("sum", a)))), unary("-", item(a)), pair(a, "=", queryOf(a)), agg("sum", where(a)), field("select"), field("i.from"), field("a.b.c"), field("9"), impl.Tree{Kind: impl.NdCol, Name: "i", N: 1}, impl.Tree{Kind: impl.NdCol, Name: "i", Val: num(1)}, impl.Tree{Kind: impl.NdLit, Name: "i"}, impl.Tree{Kind: impl.NdAgg, Name: "count", Of: "i"})
	for _, kind := range []int{math.MinInt, -1, 0, impl.NdAgg + 1, 256 + impl.NdLit, math.MaxInt} {
		list = append(list, impl.Tree{Kind: kind}, impl.Tree{Kind: kind, Name: "i"}, unary("-", impl.Tree{Kind: kind}), impl.Tree{Kind: kind, Kids: []impl.Tree{a}})
	}
	for _, e := range list {
		wantType(t, e, everyType(), 0, impl.ErrBad, 0)
		wantType(t, e, nil, 0, impl.ErrBad, 0)
		wantType(t, e, manyFields(impl.MaxList), 0, impl.ErrBad, 0)
		wantType(t, e, manyFields(impl.MaxList+1), 0, impl.ErrLong, 0)
	}
	wantType(t, pair(field("t"), "+", field("none")), manyFields(17), 0, impl.ErrBad, 0)
	wantType(t, pair(field("t"), "+", field("none")), manyFields(impl.MaxList+1), 0, impl.ErrLong, 0)
}

// broad is an expression of just so many nodes, an odd number, which is not deep.
func broad(size int) impl.Tree {
	if size < 3 {
		return field("i")
	}
	left := (size - 1) / 2
	left -= 1 - left%2
	return pair(broad(left), "+", broad(size-1-left))
}

func TestBoundsOfExpressions(t *testing.T) {
	scope := fields("i int, a int, b int")
	for deep := 1; deep <= impl.MaxDeep+3; deep++ {
		kind, wanted := impl.VaInt, impl.OK
		if deep > impl.MaxDeep {
			kind, wanted = 0, impl.ErrBad
		}
		wantType(t, chain(deep), scope, kind, wanted, 0)
		wantType(t, stair(deep), scope, kind, wanted, 0)
		if deep > 1 {
			wantType(t, agg("sum", chain(deep-1)), scope, kind, wanted, 0)
		}
		if wanted == impl.OK {
			wanted = impl.ErrName
		}
		last := (deep - 1) * map[int]int{impl.ErrName: 1}[wanted]
		wantType(t, chain(deep), fields("i int"), 0, wanted, last)
		wantType(t, stair(deep), fields("i int"), 0, wanted, last)
	}
	for size := impl.MaxTree - 5; size <= impl.MaxTree+5; size++ {
		e := broad(size - 1 + size%2)
		if size%2 == 0 {
			e = unary("-", e)
		}
		if got := impl.TreeSize(e); got != size {
			t.Fatalf("%d nodes, want %d", got, size)
		}
		all := nodesOf(&e)
		if size <= impl.MaxTree {
			wantType(t, e, scope, impl.VaInt, impl.OK, 0)
			all[size-1].Name = "none"
			wantType(t, e, scope, 0, impl.ErrName, size-1)
			*all[size-1] = lit(text("a"))
			wantType(t, e, scope, 0, impl.ErrType, size-1)
		} else {
			wantType(t, e, scope, 0, impl.ErrBad, 0)
			wantType(t, e, nil, 0, impl.ErrBad, 0)
		}
	}
}

// One node is changed to what is of another type: a fault is told at just this node, but that of two that are compared it is the right one.
func TestPlacesInExpressions(t *testing.T) {
	scope := everyType()
	for _, s := range []string{"-(i + 1) * (2 - -i) % (i / 3)", "sum(i * (i + 1)) + sum(i) - count(*)", "not (f and (true or not f)) or f", "1 < i + 2 and (f or t is null)", "f and i = 7 and (t = 'a' or b <> x'00')"} {
		whole := expr(t, s)
		for place := range nodesOf(&whole) {
			for kind := impl.VaNull; kind <= impl.VaBytes; kind++ {
				n := roomyTree(whole)
				*nodesOf(&n)[place] = operands(t, kind)[0]
				want, wanted, at := typedByWords(n, scope)
				wantType(t, n, scope, want, wanted, at)
				if wanted == impl.ErrType && at != place && !slices.Contains([]string{"=", "<", "<>"}, above(&n, place)) {
					t.Errorf("%s with %s at %d: told at %d", s, typeNames[kind], place, at)
				}
			}
			n := roomyTree(whole)
			*nodesOf(&n)[place] = field("none")
			wantType(t, n, scope, 0, impl.ErrName, place)
		}
	}
}

// above is the name of the node that a place's node is a kid of.
func above(n *impl.Tree, place int) string {
	for at, p := range nodesOf(n) {
		next := at + 1
		for i := range p.Kids {
			if next == place {
				return p.Name
			}
			next += impl.TreeSize(p.Kids[i])
		}
	}
	return ""
}
