package tests

import (
	"slices"
	"testing"

	"loop.example/g00208/impl"
)

func TestSafeExpressions(t *testing.T) {
	for s, want := range map[string]bool{
		"a": true, "t.a": true, "1": true, "null": true, "true": true, "'a'": true, "x'00'": true, "'-'": true, "'a + b'": true,
		"not a": true, "not not a": true, "a is null": true, "a is not null": true, "a = 1": true, "a <> 1": true, "a < 1": true, "a <= b": true, "1 > a": true, "a >= null": true,
		"a and b": true, "a or b": true, "a and not (b or c = 1) and d is null": true, "(a = 1) = (b = 2)": true, "(a is null) is null": true,
		"-a": false, "-1": false, "--a": false, "not -a = 1": false, "a = -1": false, "-a is null": false, "a and (b or -c = 1)": false, "1 = -0": false,
		"a + 1": false, "a - 1": false, "a * 1": false, "a / 1": false, "a % 1": false, "1 + 1": false, "a and b + 1 = 2": false, "a + 1 = 2 and b": false, "not (a or b * 2 > 3)": false, "a - b is null": false, "null + null is null": false, "false and 1 / 0 = 0": false,
		"count(*)": false, "count(a)": false, "sum(a)": false, "min(a)": false, "max(a)": false, "count(*) = 1": false, "not max(a)": false, "a and min(b)": false, "sum(a) is null or b": false,
		"a = 'a' and 1": true, "1 and 'a' or x''": true, "not 1": true, "1 = 'a'": true, "1 < true": true, "none.none": true, "-'a'": false, "'a' + 1": false, "true * 2": false, "sum('a')": false, "1 and -'a'": false,
	} {
		e := expr(t, s)
		wantSafe(t, e, want, impl.OK)
		if words, code := safeByWords(e); words != want || code != impl.OK {
			t.Errorf("%s: by the words %v %d", s, words, code)
		}
	}
}

func TestConjuncts(t *testing.T) {
	for s, want := range map[string][]string{
		"a": {"a"}, "1": {"1"}, "null": {"null"}, "-a": {"-a"}, "count(*)": {"count(*)"}, "not a": {"not a"}, "a = 1": {"a = 1"}, "a or b": {"a or b"}, "a + b": {"a + b"},
		"a and b": {"a", "b"}, "b and a": {"b", "a"}, "a and a": {"a", "a"}, "a and b and c": {"a", "b", "c"}, "a and (b and c)": {"a", "b", "c"}, "(a and b) and (c and d)": {"a", "b", "c", "d"}, "a and (b and (c and d)) and e": {"a", "b", "c", "d", "e"},
		"a or b and c": {"a or b and c"}, "(a or b) and c": {"a or b", "c"}, "a and (b or c)": {"a", "b or c"}, "a and b or c": {"a and b or c"}, "a and (b and c or d)": {"a", "b and c or d"}, "(a and b or c) and (d or e and f)": {"a and b or c", "d or e and f"},
		"not (a and b)": {"not (a and b)"}, "not a and b": {"not a", "b"}, "not (a and b) and c": {"not (a and b)", "c"}, "a and not (b and c)": {"a", "not (b and c)"},
		"(a and b) is null": {"(a and b) is null"}, "(a and b) = (c and d)": {"(a and b) = (c and d)"}, "(a and b) = c and d": {"(a and b) = c", "d"}, "min(a and b)": {"min(a and b)"}, "min(a and b) and max(c)": {"min(a and b)", "max(c)"},
		"n > 1 and n < 3 and status = 'open'": {"n > 1", "n < 3", "status = 'open'"}, "1 and 'a'": {"1", "'a'"}, "1 + 1 and -a": {"1 + 1", "-a"}, "null and true and 1 / 0": {"null", "true", "1 / 0"},
	} {
		e := expr(t, s)
		var parts []impl.Tree
		for _, part := range want {
			parts = append(parts, expr(t, part))
		}
		wantConjuncts(t, e, parts, impl.OK)
		words, code := conjunctsByWords(e)
		if code != impl.OK || !sameTrees(words, parts) {
			t.Errorf("%s: by the words %s %d", s, drawn(query(words...)), code)
		}
	}
}

// joined is of so many columns with `and` between, as evenly as can be.
func joined(count int) impl.Tree {
	if count == 1 {
		return field("a")
	}
	return pair(joined(count/2), "and", joined(count-count/2))
}

// The most nodes, the deepest ones, and one more.
func TestBoundsOfPlannedExpressions(t *testing.T) {
	for count, code := range map[int]int{1: impl.OK, 2: impl.OK, 59: impl.OK, 60: impl.OK, 61: impl.ErrBad, 200: impl.ErrBad} {
		e, parts := joined(count), slices.Repeat([]impl.Tree{field("a")}, count)
		if code != impl.OK {
			parts = nil
		}
		wantSafe(t, e, code == impl.OK, code)
		wantConjuncts(t, e, parts, code)
	}
	for _, size := range []int{119, 121} {
		_, code := conjunctsByWords(broad(size))
		wantSafe(t, broad(size), false, code)
	}
	for deep := 17; deep < 24; deep++ {
		left, right, nots := field("a"), field("a"), field("a")
		for range deep - 1 {
			left, right, nots = pair(left, "and", field("b")), pair(field("b"), "and", right), unary("not", nots)
		}
		code := impl.OK
		if deep > impl.MaxDeep {
			code = impl.ErrBad
		}
		for _, e := range []impl.Tree{left, right, nots} {
			words, told := conjunctsByWords(e)
			if told != code {
				t.Error("the words tell", told, "of", deep, "levels")
			}
			wantSafe(t, e, code == impl.OK, code)
			wantConjuncts(t, e, words, code)
		}
		wantSafe(t, chain(deep), false, code)
	}
}

func TestPlannedExpressionsThatAreNotRight(t *testing.T) {
	a := field("a")
	list := []impl.Tree{
		{}, {Kind: least}, {Kind: greatest}, {Kind: 18}, query(item(a), from("t")), insertInto("t", a), item(a), from("t"), where(a), groupBy("a"), rising(a), limit(1), setTo("a", a),
		{Kind: impl.NdLit, Val: impl.Value{Kind: 9}}, lit(num(-1)), lit(num(999999999999999999 + 1)), lit(num(least)), lit(num(greatest)), {Kind: impl.NdLit, N: 1}, {Kind: impl.NdLit, Name: "a"}, node(impl.NdLit, "", a),
		field(""), field("and"), field("9"), field("a.null"), {Kind: impl.NdCol, Name: "a", Of: "9"}, {Kind: impl.NdCol, Name: "a", N: 1}, {Kind: impl.NdCol, Name: "a", Val: num(1)}, node(impl.NdCol, "a", a), field(longName + "n"),
		node(impl.NdUnary, "-"), node(impl.NdUnary, "-", a, a), unary("+", a), unary("", a), unary("and", a), unary("is", a), node(impl.NdBinary, "and"), node(impl.NdBinary, "and", a), node(impl.NdBinary, "and", a, a, a), pair(a, "not", a), pair(a, "", a), pair(a, "AND", a), pair(a, "==", a), {Kind: impl.NdBinary, Name: "and", Of: "a", Kids: []impl.Tree{a, a}},
		agg("sum"), agg("min"), agg("avg", a), agg("count", a, a), agg("sum", agg("count")), agg("max", pair(a, "+", agg("min", a))),
	}
	for _, v := range wrongValues() {
		list = append(list, lit(v))
	}
	for _, wrong := range list {
		for _, e := range []impl.Tree{wrong, unary("not", wrong), pair(a, "and", wrong), pair(wrong, "and", a), pair(pair(a, "and", wrong), "and", a), pair(a, "=", wrong), agg("count", wrong), pair(unary("-", a), "and", wrong)} {
			wantSafe(t, e, false, impl.ErrBad)
			wantConjuncts(t, e, nil, impl.ErrBad)
			if _, code := safeByWords(e); code != impl.ErrBad {
				t.Error("by the words right:", drawn(e))
			}
		}
	}
	wantSafe(t, agg("count"), false, impl.OK)
	wantConjuncts(t, agg("count"), []impl.Tree{agg("count")}, impl.OK)
	for _, none := range [][]impl.Tree{nil, {}} {
		count := impl.Tree{Kind: impl.NdAgg, Name: "count", Kids: none}
		wantSafe(t, pair(a, "and", count), false, impl.OK)
		wantConjuncts(t, pair(a, "and", count), []impl.Tree{a, count}, impl.OK)
		wantSafe(t, impl.Tree{Kind: impl.NdCol, Name: "a", Kids: none}, true, impl.OK)
	}
}

// Rolled expressions, with and without types, some of them bent.
func TestRolledPlannedExpressions(t *testing.T) {
	d := &dice{state: 400}
	r := &roller{dice: dice{state: 401}, scope: everyType(), slip: 20}
	count, several := map[string]int{}, 0
	for i := range 6000 {
		e := rolledExpr(d, 1+d.below(14), 8, d.below(3) == 0)
		if i%3 == 0 {
			e = r.expr(impl.VaBool, 1+d.below(14), i%9 == 0)
		}
		if i%4 == 0 {
			e = pair(e, "and", pair(rolledExpr(d, 1+d.below(5), 5, false), "and", rolledLit(d)))
		}
		if d.below(4) == 0 {
			all := nodesOf(&e)
			bendNode(d, all[d.below(len(all))])
		}
		safe, code := safeByWords(e)
		wantSafe(t, e, safe, code)
		parts, code := conjunctsByWords(e)
		wantConjuncts(t, e, parts, code)
		count[impl.CodeWord(code)+map[bool]string{true: " safe"}[safe]]++
		if len(parts) > 2 {
			several++
		}
	}
	for _, kind := range []string{"ok", "ok safe", "bad"} {
		if count[kind] < 300 {
			t.Error("few of", kind, count)
		}
	}
	if several < 200 {
		t.Error("few of several parts", several)
	}
}

// What is safe and has a type has no fault, whatever the row is; the parts are all true just where the whole is.
func TestSafeExpressionsHaveNoFault(t *testing.T) {
	count := map[bool]int{}
	for i, scope := range someScopes() {
		r := &roller{dice: dice{state: uint64(410 + i)}, scope: scope}
		for range 400 {
			e := r.expr(impl.VaBool, 1+r.below(12), false)
			if r.below(2) == 0 {
				e = pair(e, "and", r.expr(impl.VaBool, 1+r.below(6), false))
			}
			if _, code, _ := impl.TypeOf(e, scope); code != impl.OK {
				continue
			}
			safe, code := impl.SafeExpr(e)
			parts, code2 := impl.Conjuncts(e)
			if code+code2 != impl.OK {
				t.Fatal(drawn(e), code, code2)
			}
			for range 6 {
				line := rolledLine(&r.dice, scope, 4)
				whole, fault := impl.EvalRow(e, scope, line)
				if safe && fault != impl.OK {
					t.Fatalf("%s is safe, but %s of %v", drawn(e), impl.CodeWord(fault), line)
				}
				all := fault == impl.OK
				for _, part := range parts {
					v, told := impl.EvalRow(part, scope, line)
					all = all && v == flag(1) && told == impl.OK
				}
				if fault == impl.OK && all != (whole == flag(1)) {
					t.Fatalf("%s of %v: the whole is %v, all parts are %v", drawn(e), line, whole, all)
				}
			}
			count[safe]++
		}
	}
	if count[true] < 200 || count[false] < 200 {
		t.Error("few of a kind", count)
	}
}

// Trees that have themselves within, and such as are far beyond all bounds.
func TestPlansOfGreatTrees(t *testing.T) {
	knot := make([]impl.Tree, 2)
	knot[0], knot[1] = impl.Tree{Kind: impl.NdUnary, Name: "not", Kids: knot[:1]}, impl.Tree{Kind: impl.NdBinary, Name: "and", Kids: knot}
	deep := make([]impl.Tree, 1000000)
	for i := range deep[1:] {
		deep[i+1] = impl.Tree{Kind: impl.NdUnary, Name: "not", Kids: deep[i : i+1]}
	}
	twice := []impl.Tree{field("flag"), field("flag")}
	for range 40 {
		twice = slices.Repeat([]impl.Tree{{Kind: impl.NdBinary, Name: "and", Kids: twice}}, 2)
	}
	for i, e := range []impl.Tree{knot[0], knot[1], deep[len(deep)-1], twice[0], {Kind: impl.NdAgg, Name: "count", Kids: make([]impl.Tree, impl.MaxList+1)}} {
		if yes, code := impl.SafeExpr(e); yes || code != impl.ErrBad {
			t.Error("SafeExpr of great tree", i, yes, code)
		}
		if parts, code := impl.Conjuncts(e); len(parts) > 0 || code != impl.ErrBad {
			t.Error("Conjuncts of great tree", i, len(parts), code)
		}
		for _, n := range []impl.Tree{e, query(item(e), from("cases")), query(item(field("id")), from("cases"), where(e))} {
			if p, code := impl.PlanSql(n, plannedTables()); p != (impl.Plan{}) || code != impl.ErrBad {
				t.Error("PlanSql of great tree", i, p, code)
			}
			if a, looked, code := impl.RunPlan(n, plannedTables(), plannedData()); len(a.Fields)+len(a.Rows)+looked > 0 || code != impl.ErrBad {
				t.Error("RunPlan of great tree", i, looked, code)
			}
		}
	}
}
