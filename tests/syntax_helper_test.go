package tests

import (
	"fmt"
	"reflect"
	"slices"
	"strings"

	"loop.example/g00208/impl"
)

// node has kids with room behind their end.
func node(kind int, name string, kids ...impl.Tree) impl.Tree {
	return impl.Tree{Kind: kind, Name: name, Kids: roomy(kids, impl.Tree{Kind: 77})}
}

func lit(v impl.Value) impl.Tree { return impl.Tree{Kind: impl.NdLit, Val: v} }

// field is of a text such as "a" or "t.a".
func field(t string) impl.Tree {
	of, name, found := strings.Cut(t, ".")
	if !found {
		of, name = "", of
	}
	return impl.Tree{Kind: impl.NdCol, Name: name, Of: of}
}

func unary(name string, e impl.Tree) impl.Tree { return node(impl.NdUnary, name, e) }

func pair(left impl.Tree, name string, right impl.Tree) impl.Tree {
	return node(impl.NdBinary, name, left, right)
}

func agg(name string, kids ...impl.Tree) impl.Tree { return node(impl.NdAgg, name, kids...) }

func item(e impl.Tree) impl.Tree { return node(impl.NdItem, "", e) }

func itemAs(e impl.Tree, name string) impl.Tree { return node(impl.NdItem, name, e) }

func from(name string) impl.Tree { return impl.Tree{Kind: impl.NdTable, Name: name} }

func fromAs(name, other string) impl.Tree {
	return impl.Tree{Kind: impl.NdTable, Name: name, Of: other}
}

func joinOn(e impl.Tree) impl.Tree { return node(impl.NdOn, "", e) }

func where(e impl.Tree) impl.Tree { return node(impl.NdWhere, "", e) }

func groupBy(names ...string) impl.Tree {
	var kids []impl.Tree
	for _, name := range names {
		kids = append(kids, field(name))
	}
	return node(impl.NdGroup, "", kids...)
}

func rising(e impl.Tree) impl.Tree { return node(impl.NdOrder, "", e) }

func falling(e impl.Tree) impl.Tree {
	n := rising(e)
	n.N = 1
	return n
}

func limit(n int) impl.Tree { return impl.Tree{Kind: impl.NdLimit, N: n} }

func setTo(name string, e impl.Tree) impl.Tree { return node(impl.NdSet, name, e) }

func query(parts ...impl.Tree) impl.Tree { return node(impl.NdSelect, "", parts...) }

func insertInto(name string, list ...impl.Tree) impl.Tree {
	return node(impl.NdInsert, name, list...)
}

func updateOf(name string, parts ...impl.Tree) impl.Tree {
	return node(impl.NdUpdate, name, parts...)
}

func deleteFrom(name string, parts ...impl.Tree) impl.Tree {
	return node(impl.NdDelete, name, parts...)
}

// queryOf is the least query in whose place an expression can stand.
func queryOf(e impl.Tree) impl.Tree { return query(item(e), from("t")) }

// cloneTree has nil for kids that are empty, as these are the same.
func cloneTree(n impl.Tree) impl.Tree {
	n.Kids = append([]impl.Tree(nil), n.Kids...)
	for i, kid := range n.Kids {
		n.Kids[i] = cloneTree(kid)
	}
	return n
}

func sameTree(a, b impl.Tree) bool { return reflect.DeepEqual(cloneTree(a), cloneTree(b)) }

// roomyTree has lists of its own, with room behind their ends.
func roomyTree(n impl.Tree) impl.Tree {
	kids := make([]impl.Tree, len(n.Kids))
	for i, kid := range n.Kids {
		kids[i] = roomyTree(kid)
	}
	n.Kids = roomy(kids, impl.Tree{Kind: 77, Name: "behind"})
	return n
}

// behindTree has what stands behind the ends of a tree's lists too.
func behindTree(n impl.Tree) impl.Tree {
	n.Kids = slices.Clone(n.Kids[:cap(n.Kids)])
	for i, kid := range n.Kids {
		n.Kids[i] = behindTree(kid)
	}
	return n
}

// scribbleTree writes over the lists of kids first, as the kids lead to them.
func scribbleTree(n impl.Tree) {
	for _, kid := range n.Kids[:cap(n.Kids)] {
		scribbleTree(kid)
	}
	scribbleList(n.Kids[:cap(n.Kids)], impl.Tree{Kind: -9, Name: "scribbled"})
}

// eachNode calls do with the way to each node of a tree.
func eachNode(n *impl.Tree, do func(*impl.Tree)) {
	do(n)
	for i := range n.Kids {
		eachNode(&n.Kids[i], do)
	}
}

func nodesOf(n *impl.Tree) []*impl.Tree {
	var list []*impl.Tree
	eachNode(n, func(n *impl.Tree) { list = append(list, n) })
	return list
}

var kindWords = []string{"?", "select", "insert", "update", "delete", "item", "table", "on", "where", "group", "order", "limit", "set", "lit", "col", "unary", "binary", "agg"}

// drawn tells all that a tree has.
func drawn(n impl.Tree) string {
	t := fmt.Sprint("kind", n.Kind)
	if n.Kind > 0 && n.Kind < len(kindWords) {
		t = kindWords[n.Kind]
	}
	if n.Name != "" {
		t += " " + n.Name
	}
	if n.Of != "" {
		t += " of " + n.Of
	}
	if n.N != 0 {
		t += fmt.Sprint(" ", n.N)
	}
	if n.Kind == impl.NdLit || n.Val != (impl.Value{}) {
		s, code := impl.ValueText(n.Val)
		t += " " + s
		if code != impl.OK {
			t += fmt.Sprintf("%v", n.Val)
		}
	}
	for _, kid := range n.Kids {
		t += " " + drawn(kid)
	}
	return "(" + t + ")"
}

// statementTrees are right trees of all kinds with their texts.
var statementTrees = []struct {
	text string
	tree impl.Tree
}{
	{"select a from t", queryOf(field("a"))},
	{"select t.a from t", queryOf(field("t.a"))},
	{"select 1, a as b, count(*) as n from t", query(item(lit(num(1))), itemAs(field("a"), "b"), itemAs(agg("count"), "n"), from("t"))},
	{"select a from t as x", query(item(field("a")), fromAs("t", "x"))},
	{"select x.a, y.a from t as x join t as y on x.a = y.a", query(item(field("x.a")), item(field("y.a")), fromAs("t", "x"), fromAs("t", "y"), joinOn(pair(field("x.a"), "=", field("y.a"))))},
	{"select a from t join u on true", query(item(field("a")), from("t"), from("u"), joinOn(lit(flag(1))))},
	{"select a from t where a", query(item(field("a")), from("t"), where(field("a")))},
	{"select a from t group by a", query(item(field("a")), from("t"), groupBy("a"))},
	{"select a from t group by a, t.b, c", query(item(field("a")), from("t"), groupBy("a", "t.b", "c"))},
	{"select a from t order by a", query(item(field("a")), from("t"), rising(field("a")))},
	{"select a from t order by a desc", query(item(field("a")), from("t"), falling(field("a")))},
	{"select a from t order by a, b desc, sum(c), d or e desc", query(item(field("a")), from("t"), rising(field("a")), falling(field("b")), rising(agg("sum", field("c"))), falling(pair(field("d"), "or", field("e"))))},
	{"select a from t limit 0", query(item(field("a")), from("t"), limit(0))},
	{"select a from t limit 999999999999999999", query(item(field("a")), from("t"), limit(999999999999999999))},
	{"select min(a) as low, max(a) from t as x join u as y on x.a < y.b where x.c is null group by x.d order by min(a) desc, y.e limit 10", query(
		itemAs(agg("min", field("a")), "low"), item(agg("max", field("a"))), fromAs("t", "x"), fromAs("u", "y"), joinOn(pair(field("x.a"), "<", field("y.b"))),
		where(unary("isnull", field("x.c"))), groupBy("x.d"), falling(agg("min", field("a"))), rising(field("y.e")), limit(10))},
	{"insert into t values (1)", insertInto("t", lit(num(1)))},
	{"insert into t values (0, 'it''s', x'00ff', null, true, false, -1, a, t.b)", insertInto("t", lit(num(0)), lit(text("it's")), lit(raw("\x00\xff")), lit(impl.Value{}), lit(flag(1)), lit(flag(0)), unary("-", lit(num(1))), field("a"), field("t.b"))},
	{"insert into t values ((1 + 2) * 3, '', x'')", insertInto("t", pair(pair(lit(num(1)), "+", lit(num(2))), "*", lit(num(3))), lit(text("")), lit(raw("")))},
	{"update t set a = 1", updateOf("t", setTo("a", lit(num(1))))},
	{"update t set a = b = c, d = not e where f <> 2", updateOf("t", setTo("a", pair(field("b"), "=", field("c"))), setTo("d", unary("not", field("e"))), where(pair(field("f"), "<>", lit(num(2)))))},
	{"delete from t", deleteFrom("t")},
	{"delete from t where a is not null", deleteFrom("t", where(unary("isnotnull", field("a"))))},
}

// rolledName is a name, though it may look like something else.
func rolledName(d *dice) string {
	pool := []string{"a", "b", "t", "x", "n", "id", "_", "Select", "FROM", "nulls", "x0", "notx", "is_", longName}
	return pool[d.below(len(pool))]
}

func rolledField(d *dice) impl.Tree {
	n := field(rolledName(d))
	if d.below(3) == 0 {
		n.Of = rolledName(d)
	}
	return n
}

func rolledLit(d *dice) impl.Tree {
	pool := []impl.Value{{}, flag(0), flag(1), num(0), num(7), num(10), num(999999999999999999), text(""), text("a"), text("it's"), text("''"), text("select"), text("x\n, ("), text("\x00\xff"), raw(""), raw("\x00"), raw("it's"), text(strings.Repeat("'", impl.MaxCell)), raw(strings.Repeat("\xff", impl.MaxCell))}
	return lit(pool[d.below(len(pool))])
}

var signNames = strings.Fields("or and = <> < <= > >= + - * / %")

var unaryNames = strings.Fields("- not isnull isnotnull")

// rolledExpr has at most so many nodes and so many levels; aggregates says whether one may stand in it.
func rolledExpr(d *dice, size, deep int, aggregates bool) impl.Tree {
	choice := d.below(10)
	switch {
	case size > 2 && deep > 1 && choice > 3:
		left := rolledExpr(d, 1+d.below(size-2), deep-1, aggregates)
		right := rolledExpr(d, size-1-impl.TreeSize(left), deep-1, aggregates)
		return pair(left, signNames[d.below(len(signNames))], right)
	case size > 1 && deep > 1 && choice > 1:
		return unary(unaryNames[d.below(len(unaryNames))], rolledExpr(d, size-1, deep-1, aggregates))
	case aggregates && choice == 1 && size > 1 && deep > 1 && d.below(3) > 0:
		return agg([]string{"count", "sum", "min", "max"}[d.below(4)], rolledExpr(d, size-1, deep-1, false))
	case aggregates && choice == 1:
		return agg("count")
	case choice == 0:
		return rolledLit(d)
	}
	return rolledField(d)
}

// rolledQuery has expressions of at most so many nodes.
func rolledQuery(d *dice, size int) impl.Tree {
	some := func(aggregates bool) impl.Tree { return rolledExpr(d, 1+d.below(size), 8, aggregates) }
	var parts []impl.Tree
	for range 1 + d.below(3) {
		part := item(some(true))
		if d.below(3) == 0 {
			part.Name = rolledName(d)
		}
		parts = append(parts, part)
	}
	parts = append(parts, rolledFrom(d))
	if d.below(2) == 0 {
		parts = append(parts, rolledFrom(d), joinOn(some(false)))
	}
	if d.below(2) == 0 {
		parts = append(parts, where(some(false)))
	}
	if d.below(2) == 0 {
		part := groupBy("g")
		for range d.below(3) {
			part.Kids = append(part.Kids, rolledField(d))
		}
		parts = append(parts, part)
	}
	for range d.below(3) {
		part := rising(some(true))
		part.N = d.below(2)
		parts = append(parts, part)
	}
	if d.below(2) == 0 {
		parts = append(parts, limit([]int{0, 1, 25, 999999999999999999}[d.below(4)]))
	}
	return query(parts...)
}

func rolledFrom(d *dice) impl.Tree {
	part := from(rolledName(d))
	if d.below(2) == 0 {
		part.Of = rolledName(d)
	}
	return part
}

// rolledStatement is right: its bounds are far enough away.
func rolledStatement(d *dice, size int) impl.Tree {
	some := func() impl.Tree { return rolledExpr(d, 1+d.below(size), 10, false) }
	var parts []impl.Tree
	switch d.below(6) {
	case 0:
		for range 1 + d.below(4) {
			parts = append(parts, some())
		}
		return insertInto(rolledName(d), parts...)
	case 1:
		for range 1 + d.below(3) {
			parts = append(parts, setTo(rolledName(d), some()))
		}
		if d.below(2) == 0 {
			parts = append(parts, where(some()))
		}
		return updateOf(rolledName(d), parts...)
	case 2:
		if d.below(3) > 0 {
			parts = append(parts, where(some()))
		}
		return deleteFrom(rolledName(d), parts...)
	}
	return rolledQuery(d, size)
}
