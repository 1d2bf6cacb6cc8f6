package tests

import (
	"math"
	"slices"
	"strings"
	"testing"

	"loop.example/g00208/impl"
)

// wantStatement asks whether a tree is a right statement, and that only such a one is printed.
func wantStatement(t *testing.T, what string, n impl.Tree, right bool) {
	t.Helper()
	if got := impl.SqlOK(n); got != right {
		t.Errorf("%s: %v, want %v: %.500s", what, got, right, drawn(n))
	}
	s, got := impl.PrintSql(n)
	if right && (got != impl.OK || s == "") || !right && (got != impl.ErrBad || s != "") {
		t.Errorf("%s: printed as %q %d", what, s, got)
	}
}

func TestRightStatements(t *testing.T) {
	for _, c := range statementTrees {
		wantStatement(t, c.text, c.tree, true)
	}
	for _, name := range oddNames {
		e := field(name + "." + name)
		wantStatement(t, name, query(itemAs(e, name), fromAs(name, name), fromAs(name, name), joinOn(e), groupBy(name)), true)
		wantStatement(t, name, insertInto(name, e), true)
		wantStatement(t, name, updateOf(name, setTo(name, e)), true)
		wantStatement(t, name, deleteFrom(name), true)
	}
	for _, name := range unaryNames {
		wantStatement(t, name, queryOf(unary(name, field("a"))), true)
	}
	for _, name := range signNames {
		wantStatement(t, name, queryOf(pair(field("a"), name, field("b"))), true)
	}
	for _, name := range []string{"count", "sum", "min", "max"} {
		wantStatement(t, name, queryOf(agg(name, field("a"))), true)
	}
}

func TestNodesThatAreNoStatements(t *testing.T) {
	wantStatement(t, "nothing", impl.Tree{}, false)
	parts := []impl.Tree{item(field("a")), from("t"), joinOn(field("a")), where(field("a")), groupBy("a"), rising(field("a")), limit(1), setTo("a", field("b")), lit(num(1)), field("a"), unary("-", field("a")), pair(field("a"), "=", field("b")), agg("count")}
	for _, p := range parts {
		wantStatement(t, "a part alone", p, false)
	}
	for _, kind := range []int{math.MinInt, -1, 0, 18, 256 + 1, math.MaxInt} {
		for _, c := range statementTrees {
			n := roomyTree(c.tree)
			n.Kind = kind
			wantStatement(t, "another kind", n, false)
		}
	}
	for _, c := range statementTrees {
		for kind := impl.NdSelect; kind <= impl.NdAgg; kind++ {
			n := roomyTree(c.tree)
			n.Kind = kind
			wantStatement(t, kindWords[kind], n, statementByWords(n))
		}
	}
}

func TestPartsInTheirOrder(t *testing.T) {
	a := field("a")
	all := []impl.Tree{item(a), item(a), from("t"), from("u"), joinOn(a), where(a), groupBy("a"), rising(a), falling(a), limit(1)}
	wantStatement(t, "all", query(all...), true)
	for i := range all {
		left := slices.Delete(slices.Clone(all), i, i+1)
		wantStatement(t, "one left out", query(left...), statementByWords(query(left...)))
		for k := range all {
			twice := slices.Insert(slices.Clone(all), k, all[i])
			wantStatement(t, "one twice", query(twice...), statementByWords(query(twice...)))
			turned := slices.Clone(all)
			turned[i], turned[k] = turned[k], turned[i]
			wantStatement(t, "two exchanged", query(turned...), statementByWords(query(turned...)))
		}
	}
	for _, c := range []struct {
		what  string
		n     impl.Tree
		right bool
	}{
		{"no parts", query(), false}, {"no items", query(from("t")), false}, {"no table", query(item(a)), false}, {"two tables", query(item(a), from("t"), from("u")), false}, {"an on of one table", query(item(a), from("t"), joinOn(a)), false},
		{"two ons", query(item(a), from("t"), from("u"), joinOn(a), joinOn(a)), false}, {"an on between", query(item(a), from("t"), joinOn(a), from("u")), false}, {"three tables", query(item(a), from("t"), from("u"), from("v"), joinOn(a)), false}, {"a join", query(item(a), from("t"), from("u"), joinOn(a)), true},
		{"two wheres", query(item(a), from("t"), where(a), where(a)), false}, {"two groups", query(item(a), from("t"), groupBy("a"), groupBy("b")), false}, {"two limits", query(item(a), from("t"), limit(1), limit(1)), false}, {"a set", query(item(a), from("t"), setTo("a", a)), false}, {"an expression", query(item(a), from("t"), a), false}, {"a statement", query(item(a), from("t"), queryOf(a)), false},
		{"a group of none", query(item(a), from("t"), groupBy()), false}, {"a group of a literal", query(item(a), from("t"), node(impl.NdGroup, "", lit(num(1)))), false}, {"a group of a sum", query(item(a), from("t"), node(impl.NdGroup, "", a, pair(a, "+", a))), false}, {"a group of an aggregate", query(item(a), from("t"), node(impl.NdGroup, "", agg("count"))), false},
		{"an item of none", query(node(impl.NdItem, ""), from("t")), false}, {"an item of two", query(node(impl.NdItem, "", a, a), from("t")), false}, {"an item of an item", queryOf(item(a)), false}, {"an item of a query", queryOf(queryOf(a)), false}, {"a table with a kid", query(item(a), node(impl.NdTable, "t", a)), false}, {"a limit with a kid", query(item(a), from("t"), node(impl.NdLimit, "", lit(num(1)))), false},
		{"a where of none", query(item(a), from("t"), node(impl.NdWhere, "")), false}, {"a where of two", query(item(a), from("t"), node(impl.NdWhere, "", a, a)), false}, {"an order of none", query(item(a), from("t"), node(impl.NdOrder, "")), false}, {"an order of two", query(item(a), from("t"), node(impl.NdOrder, "", a, a)), false}, {"an on of two", query(item(a), from("t"), from("u"), node(impl.NdOn, "", a, a)), false}, {"an on of none", query(item(a), from("t"), from("u"), node(impl.NdOn, "")), false},
		{"an insert of none", insertInto("t"), false}, {"an insert of a part", insertInto("t", item(a)), false}, {"an insert with a where", insertInto("t", a, where(a)), false}, {"an insert of many", insertInto("t", slices.Repeat([]impl.Tree{a}, 119)...), true},
		{"an update of none", updateOf("t"), false}, {"an update of a where", updateOf("t", where(a)), false}, {"where ahead of set", updateOf("t", where(a), setTo("a", a)), false}, {"two wheres", updateOf("t", setTo("a", a), where(a), where(a)), false}, {"a column twice", updateOf("t", setTo("a", a), setTo("a", a), where(a)), true}, {"a set of none", updateOf("t", node(impl.NdSet, "a")), false}, {"a set of two", updateOf("t", node(impl.NdSet, "a", a, a)), false}, {"an expression", updateOf("t", a), false}, {"a limit", updateOf("t", setTo("a", a), limit(1)), false},
		{"two wheres", deleteFrom("t", where(a), where(a)), false}, {"an expression", deleteFrom("t", a), false}, {"a limit", deleteFrom("t", where(a), limit(1)), false}, {"a set", deleteFrom("t", setTo("a", a)), false},
		{"a literal with a kid", queryOf(node(impl.NdLit, "", a)), false}, {"a column with a kid", queryOf(node(impl.NdCol, "a", a)), false}, {"unary of none", queryOf(node(impl.NdUnary, "-")), false}, {"unary of two", queryOf(node(impl.NdUnary, "-", a, a)), false}, {"binary of none", queryOf(node(impl.NdBinary, "-")), false}, {"binary of one", queryOf(node(impl.NdBinary, "-", a)), false}, {"binary of three", queryOf(node(impl.NdBinary, "-", a, a, a)), false},
		{"count of none", queryOf(agg("count")), true}, {"sum of none", queryOf(agg("sum")), false}, {"min of none", queryOf(agg("min")), false}, {"max of none", queryOf(agg("max")), false}, {"count of two", queryOf(agg("count", a, a)), false}, {"sum of two", queryOf(agg("sum", a, a)), false},
	} {
		wantStatement(t, c.what, c.n, c.right)
	}
}

func TestAggregatesOnlyWhereTheyMayBe(t *testing.T) {
	a, count := field("a"), agg("count")
	for _, one := range []impl.Tree{count, agg("sum", a), pair(a, "+", count), unary("-", agg("min", a)), unary("not", unary("isnull", pair(agg("max", a), "*", a))), pair(count, "=", agg("sum", a))} {
		for _, c := range []struct {
			what  string
			n     impl.Tree
			right bool
		}{
			{"item", queryOf(one), true}, {"second item", query(item(a), item(one), from("t")), true}, {"order", query(item(a), from("t"), rising(one)), true}, {"second order", query(item(a), from("t"), rising(a), falling(one)), true}, {"all", query(item(one), item(one), from("t"), rising(one), falling(one)), true},
			{"on", query(item(a), from("t"), from("u"), joinOn(one)), false}, {"where", query(item(a), from("t"), where(one)), false}, {"where beside an item", query(item(one), from("t"), where(one)), false}, {"group", query(item(one), from("t"), node(impl.NdGroup, "", one)), false},
			{"values", insertInto("t", a, one), false}, {"set", updateOf("t", setTo("a", one)), false}, {"where of an update", updateOf("t", setTo("a", a), where(one)), false}, {"where of a delete", deleteFrom("t", where(one)), false},
			{"aggregate", queryOf(agg("sum", one)), false}, {"count", queryOf(agg("count", one)), false}, {"order's aggregate", query(item(a), from("t"), rising(agg("max", one))), false}, {"aggregate's operand", queryOf(agg("sum", pair(a, "+", unary("-", one)))), false},
		} {
			wantStatement(t, c.what, c.n, c.right)
		}
	}
}

func TestNamesThatAreNone(t *testing.T) {
	a := field("a")
	for _, name := range wrongNamesHere() {
		of := a
		of.Of = name
		for i, n := range []impl.Tree{
			query(itemAs(a, name), from("t")), query(item(a), from(name)), query(item(a), fromAs("t", name)), query(item(a), from("t"), from(name), joinOn(a)), query(item(a), from("t"), fromAs("t", name), joinOn(a)),
			queryOf(impl.Tree{Kind: impl.NdCol, Name: name}), queryOf(of), query(item(a), from("t"), node(impl.NdGroup, "", of)), query(item(a), from("t"), node(impl.NdGroup, "", impl.Tree{Kind: impl.NdCol, Name: name})), query(item(a), from("t"), rising(of)),
			insertInto(name, a), updateOf(name, setTo("a", a)), updateOf("t", setTo(name, a)), deleteFrom(name), queryOf(unary("-", pair(a, "+", agg("sum", of)))),
		} {
			maybe := name == "" && slices.Contains([]int{0, 2, 4, 6, 7, 9, 14}, i) // a name that may be left out
			wantStatement(t, name, n, maybe)
		}
	}
	for _, name := range []string{"", "+ ", "==", "!=", "<>=", "not", "isnull", "is null", "Or", "count", "a", ".", ",", "(", longName, strings.Repeat("+", impl.MaxText+1)} {
		wantStatement(t, "sign "+name, queryOf(pair(a, name, a)), false)
	}
	for _, name := range []string{"", "+", "--", "is null", "isnotnull ", "Not", "and", "is", "null", "a", strings.Repeat("-", impl.MaxText+1)} {
		wantStatement(t, "unary "+name, queryOf(unary(name, a)), false)
	}
	for _, name := range []string{"", "avg", "Count", "count ", "counts", "a", "not", strings.Repeat("sum", impl.MaxText)} {
		wantStatement(t, "aggregate "+name, queryOf(agg(name, a)), false)
		wantStatement(t, "aggregate "+name, queryOf(agg(name)), false)
	}
}

func TestNumbersInTrees(t *testing.T) {
	const most = 999999999999999999
	for _, n := range []int{math.MinInt, math.MinInt + 1, -most - 1, -most, -1, 0, 1, 2, 10, most - 1, most, most + 1, math.MaxInt - 1, math.MaxInt} {
		in := n >= 0 && n <= most
		wantStatement(t, "literal", queryOf(lit(num(n))), in)
		wantStatement(t, "literal in an insert", insertInto("t", field("a"), unary("-", lit(num(n)))), in)
		wantStatement(t, "limit", query(item(field("a")), from("t"), limit(n)), in)
		down := rising(field("a"))
		down.N = n
		wantStatement(t, "order", query(item(field("a")), from("t"), down), n == 0 || n == 1)
	}
	for _, v := range wrongValues() {
		wantStatement(t, "a wrong value", queryOf(lit(v)), false)
	}
	for _, v := range risingValues() {
		wantStatement(t, "a right value", queryOf(lit(v)), v.Kind != impl.VaInt || v.N >= 0 && v.N <= most)
	}
}

// Each node of each tree gets one part that it may have or not.
func TestPartsThatDoNotBelong(t *testing.T) {
	count := map[bool]int{}
	check := func(n impl.Tree) {
		right := statementByWords(n)
		count[right]++
		wantStatement(t, "one part changed", n, right)
	}
	for _, c := range statementTrees {
		for at := range nodesOf(&c.tree) {
			change := func(do func(*impl.Tree)) {
				n := roomyTree(c.tree)
				do(nodesOf(&n)[at])
				check(n)
			}
			for _, n := range []int{math.MinInt, -1, 0, 1, 2, math.MaxInt} {
				change(func(p *impl.Tree) { p.N = n })
			}
			for _, name := range []string{"", "a", "count", "sum", "and", "-", "+", "not", "isnull", "9"} {
				change(func(p *impl.Tree) { p.Name = name })
				change(func(p *impl.Tree) { p.Of = name })
			}
			for _, v := range []impl.Value{{}, flag(0), num(0), num(-1), text(""), raw("a"), {N: 1}, {T: "a"}, {Kind: 5}} {
				change(func(p *impl.Tree) { p.Val = v })
			}
			for kind := -1; kind <= impl.NdAgg+1; kind++ {
				change(func(p *impl.Tree) { p.Kind = kind })
			}
			change(func(p *impl.Tree) { p.Kids = nil })
			change(func(p *impl.Tree) { p.Kids = []impl.Tree{} })
			for _, kid := range []impl.Tree{{}, lit(num(1)), field("a"), where(field("a")), from("t"), rising(field("a")), agg("count")} {
				change(func(p *impl.Tree) { p.Kids = append(slices.Clone(p.Kids), kid) })
				change(func(p *impl.Tree) { p.Kids = append([]impl.Tree{kid}, p.Kids...) })
				change(func(p *impl.Tree) { *p = kid })
			}
		}
	}
	if count[true] < 300 || count[false] < 3000 {
		t.Error("few of a kind", count)
	}
}

// bendNode changes something of a node; the tree may be right all the same.
func bendNode(d *dice, p *impl.Tree) {
	names := []string{"", "a", "from", "count", "max", "or", "-", "*", "not", "isnotnull", "9", longName + "n"}
	switch d.below(8) {
	case 0:
		p.Kind = d.below(20) - 1
	case 1:
		p.N = d.below(4) - 1
	case 2:
		p.Name = names[d.below(len(names))]
	case 3:
		p.Of = names[d.below(len(names))]
	case 4:
		p.Val = impl.Value{Kind: d.below(6), N: d.below(3) - 1, T: names[d.below(3)]}
	case 5:
		p.Kids = append(p.Kids, rolledExpr(d, 3, 3, true))
	case 6:
		if len(p.Kids) > 0 {
			at := d.below(len(p.Kids))
			p.Kids = slices.Delete(p.Kids, at, at+1)
		}
	case 7:
		if len(p.Kids) > 0 {
			p.Kids[0], p.Kids[len(p.Kids)-1] = p.Kids[len(p.Kids)-1], p.Kids[0]
		}
	}
}

func TestBentStatements(t *testing.T) {
	d := &dice{state: 52}
	count := map[bool]int{}
	for range 4000 {
		n := rolledStatement(d, 8)
		for range 1 + d.below(2) {
			list := nodesOf(&n)
			bendNode(d, list[d.below(len(list))])
		}
		right := statementByWords(n)
		count[right]++
		wantStatement(t, "bent", n, right)
	}
	if count[true] < 400 || count[false] < 400 {
		t.Error("few of a kind", count)
	}
}

// chain is an expression of so many nodes, each within the other.
func chain(deep int) impl.Tree {
	e := field("a")
	for range deep - 1 {
		e = unary("-", e)
	}
	return e
}

// stair is an expression as deep, to the left.
func stair(deep int) impl.Tree {
	e := field("a")
	for range deep - 1 {
		e = pair(e, "+", field("b"))
	}
	return e
}

// ofSize is a statement of just so many nodes, which is not deep.
func ofSize(size int) []impl.Tree {
	columns := slices.Repeat([]impl.Tree{field("a")}, size)
	var sets []impl.Tree
	for range (size - 1) / 2 {
		sets = append(sets, setTo("a", lit(num(1))))
	}
	if size%2 == 0 {
		sets[0].Kids[0] = unary("-", field("a"))
	}
	group := node(impl.NdGroup, "", columns[:size-5]...)
	return []impl.Tree{insertInto("t", columns[:size-1]...), updateOf("t", sets...), query(item(field("a")), from("t"), group)}
}

func TestBoundsOfTrees(t *testing.T) {
	for size := impl.MaxTree - 2; size <= impl.MaxTree+2; size++ {
		for _, n := range ofSize(size) {
			if got := impl.TreeSize(n); got != size {
				t.Errorf("%d nodes, want %d", got, size)
			}
			wantStatement(t, "nodes", n, size <= impl.MaxTree)
		}
	}
	for deep := impl.MaxDeep - 3; deep <= impl.MaxDeep+3; deep++ {
		for _, e := range []func(int) impl.Tree{chain, stair} {
			wantStatement(t, "item", queryOf(e(deep-2)), deep <= impl.MaxDeep)
			wantStatement(t, "last order", query(item(field("a")), from("t"), rising(field("a")), rising(e(deep-2))), deep <= impl.MaxDeep)
			wantStatement(t, "where", deleteFrom("t", where(e(deep-2))), deep <= impl.MaxDeep)
			wantStatement(t, "set", updateOf("t", setTo("a", e(deep-2)), setTo("a", field("b"))), deep <= impl.MaxDeep)
			wantStatement(t, "value", insertInto("t", lit(num(1)), e(deep-1), lit(num(1))), deep <= impl.MaxDeep)
			wantStatement(t, "aggregate", queryOf(agg("sum", e(deep-3))), deep <= impl.MaxDeep)
		}
	}
}

func TestTreeSize(t *testing.T) {
	shared := slices.Repeat([]impl.Tree{{}}, 1000)
	for _, c := range []struct {
		n    impl.Tree
		want int
	}{
		{impl.Tree{}, 1}, {impl.Tree{Kind: math.MinInt, Name: "any"}, 1}, {impl.Tree{Kids: []impl.Tree{}}, 1}, {impl.Tree{Kids: []impl.Tree{{}}}, 2}, {queryOf(field("a")), 4}, {queryOf(pair(field("a"), "+", lit(num(1)))), 6}, {deleteFrom("t"), 1},
		{query(item(agg("count")), from("t"), where(unary("not", field("a"))), groupBy("a", "b"), limit(1)), 11},
		{impl.Tree{Kids: make([]impl.Tree, impl.MaxList+1)}, impl.MaxList + 2}, {impl.Tree{Kids: make([]impl.Tree, 1000000)}, 1000001}, {impl.Tree{Kids: []impl.Tree{{Kids: shared}, {Kids: shared}, {}}}, 2004}, {impl.Tree{Kids: slices.Repeat([]impl.Tree{{Kids: shared}}, 1000)}, 1001001},
	} {
		if got := impl.TreeSize(c.n); got != c.want {
			t.Errorf("%d nodes, want %d", got, c.want)
		}
	}
	d := &dice{state: 53}
	for range 300 {
		n := rolledStatement(d, 10)
		if got := impl.TreeSize(n); got != len(nodesOf(&n)) {
			t.Errorf("%d nodes, want %d", got, len(nodesOf(&n)))
		}
	}
}

// Trees that are far beyond all bounds are told as quickly as others, and without going down to their ends.
func TestGreatTrees(t *testing.T) {
	const deep = 3000000
	kids := make([]impl.Tree, deep)
	for i := range kids[1:] {
		kids[i+1] = impl.Tree{Kind: impl.NdUnary, Name: "-", Kids: kids[i : i+1]}
	}
	e := kids[deep-1]
	if got := impl.TreeSize(e); got != deep {
		t.Errorf("%d nodes, want %d", got, deep)
	}
	wide := impl.Tree{Kind: impl.NdInsert, Name: "t", Kids: slices.Repeat([]impl.Tree{field("a")}, 100000)}
	knot := make([]impl.Tree, 2)
	knot[0], knot[1] = impl.Tree{Kind: impl.NdUnary, Name: "-", Kids: knot[:1]}, impl.Tree{Kind: impl.NdBinary, Name: "+", Kids: knot}
	twice := []impl.Tree{field("a"), field("a")}
	for range 40 {
		twice = slices.Repeat([]impl.Tree{{Kind: impl.NdBinary, Name: "+", Kids: twice}}, 2)
	}
	for _, n := range []impl.Tree{queryOf(e), insertInto("t", e), wide, queryOf(knot[0]), queryOf(knot[1]), insertInto("t", knot...), queryOf(twice[0])} {
		s, got := impl.PrintSql(n)
		if impl.SqlOK(n) || got != impl.ErrBad || s != "" {
			t.Error("a great tree is right", got)
		}
	}
	impl.TreeSize(knot[0]) // nothing is said of a tree that has itself within, but that each call ends
}
