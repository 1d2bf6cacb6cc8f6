package tests

import (
	"slices"
	"strings"

	"loop.example/g00208/impl"
)

// roller rolls expressions that are of a type, but that one node in some slips.
type roller struct {
	dice
	scope []impl.Field
	slip  int  // one node in so many is something else; 0: none
	known bool // no null stands there
}

func (r *roller) slips() bool { return r.slip > 0 && r.below(r.slip) == 0 }

func (r *roller) kind() int { return impl.VaBool + r.below(4) }

func (r *roller) pick(words string) string {
	list := strings.Fields(words)
	return list[r.below(len(list))]
}

// expr has at most so many nodes; it is of a type if nothing slips.
func (r *roller) expr(kind, size int, aggregates bool) impl.Tree {
	if r.slips() {
		kind = r.kind()
	}
	switch {
	case size < 2 || r.below(5) == 0:
		return r.one(kind)
	case aggregates && r.below(3) == 0:
		return r.aggregate(kind, size-1)
	case kind == impl.VaBool:
		return r.condition(size-1, aggregates)
	case kind == impl.VaInt && (size < 3 || r.below(4) == 0):
		return unary("-", r.expr(kind, size-1, aggregates))
	case kind == impl.VaInt:
		return r.both(r.pick("+ - * / %"), kind, size-1, aggregates)
	}
	return r.one(kind)
}

// both has two operands of a type.
func (r *roller) both(sign string, kind, size int, aggregates bool) impl.Tree {
	left := r.expr(kind, 1+r.below(size-1), aggregates)
	return pair(left, sign, r.expr(kind, max(1, size-impl.TreeSize(left)), aggregates))
}

func (r *roller) condition(size int, aggregates bool) impl.Tree {
	choice := r.below(6)
	switch {
	case choice == 0 || size < 2:
		return unary(r.pick("isnull isnotnull"), r.expr(r.kind(), size, aggregates))
	case choice == 1:
		return unary("not", r.expr(impl.VaBool, size, aggregates))
	case choice < 4:
		return r.both(r.pick("= <> < <= > >="), r.kind(), size, aggregates)
	}
	return r.both(r.pick("and or"), impl.VaBool, size, aggregates)
}

func (r *roller) aggregate(kind, size int) impl.Tree {
	if kind != impl.VaInt || r.below(4) == 0 {
		return agg(r.pick("min max"), r.expr(kind, size, false))
	}
	switch r.below(3) {
	case 0:
		return agg("count")
	case 1:
		return agg("count", r.expr(r.kind(), size, false))
	}
	return agg("sum", r.expr(kind, size, false))
}

// one is a node without kids.
func (r *roller) one(kind int) impl.Tree {
	if r.slips() {
		return field(r.pick("none cases.none none.id id cases notes.id n.n"))
	}
	if !r.known && r.below(8) == 0 {
		return lit(impl.Value{})
	}
	var fit []impl.Field
	for _, f := range r.scope {
		if f.Type == kind || f.Type == impl.VaNull && !r.known {
			fit = append(fit, f)
		}
	}
	if len(fit) > 0 && r.below(3) > 0 {
		return r.column(fit[r.below(len(fit))])
	}
	return lit([]impl.Value{flag(0), flag(1), num(0), num(r.below(9)), text("a"), text(""), raw("\x00"), raw("b")}[2*(kind-1)+r.below(2)])
}

// column has its table's name ahead where it must, and sometimes where it need not.
func (r *roller) column(f impl.Field) impl.Tree {
	n := field(f.Name)
	if f.Of != "" && (len(foundByWords(r.scope, "", f.Name)) > 1 && !r.slips() || r.below(3) == 0) {
		n.Of = f.Of
	}
	return n
}

// rolledSql is a statement of a catalog of typedTables.
func rolledSql(d *dice, list []impl.Table, slip int) impl.Tree {
	r := &roller{dice: dice{state: uint64(d.below(1 << 30))}, slip: slip}
	name := list[r.below(len(list))].Name
	if r.slips() {
		name = "none"
	}
	switch r.below(6) {
	case 0:
		return r.insert(list, name)
	case 1:
		return r.update(list, name)
	case 2:
		n := deleteFrom(name)
		n.Kids = r.where(list, n)
		return n
	}
	return r.query(list, name)
}

func (r *roller) where(list []impl.Table, n impl.Tree) []impl.Tree {
	if r.below(3) == 0 {
		return nil
	}
	r.scope, _, _ = scopeByWords(list, n)
	return []impl.Tree{where(r.expr(impl.VaBool, 6, false))}
}

func (r *roller) insert(list []impl.Table, name string) impl.Tree {
	n := insertInto(name, lit(num(1)))
	scope, _, _ := scopeByWords(list, n)
	if len(scope) > 0 {
		n.Kids = n.Kids[:0]
	}
	for _, f := range scope {
		n.Kids = append(n.Kids, r.expr(f.Type, 3, false))
	}
	if r.slips() {
		n.Kids = append(n.Kids, lit(num(1)))
	}
	return n
}

// update sets columns behind the key, where nothing slips.
func (r *roller) update(list []impl.Table, name string) impl.Tree {
	n := updateOf(name, setTo("none", lit(num(1))))
	r.scope, _, _ = scopeByWords(list, n)
	var sets []impl.Tree
	for i, f := range r.scope {
		key := list[slices.IndexFunc(list, func(t impl.Table) bool { return t.Name == name })].Key
		if i >= key && r.below(3) > 0 || r.slips() {
			sets = append(sets, setTo(f.Name, r.expr(f.Type, 5, false)))
		}
	}
	if len(sets) > 0 && r.slips() {
		sets = append(sets, setTo(sets[0].Name, lit(impl.Value{})))
	}
	if len(sets) > 0 {
		n.Kids = sets
	}
	n.Kids = append(n.Kids, r.where(list, n)...)
	return n
}

func (r *roller) table(name, other string) impl.Tree {
	if r.below(2) == 0 || r.slips() {
		return from(name)
	}
	return fromAs(name, other)
}

func (r *roller) query(list []impl.Table, name string) impl.Tree {
	tables := []impl.Tree{r.table(name, "x")}
	if r.below(2) == 0 {
		tables = append(tables, r.table(list[r.below(len(list))].Name, r.pick("y y y x cases")))
	}
	joined := append([]impl.Tree{item(lit(num(1)))}, tables...)
	if len(tables) == 2 {
		joined = append(joined, joinOn(lit(flag(1))))
	}
	r.scope, _, _ = scopeByWords(list, query(joined...))
	var groups []impl.Tree
	aggregates := r.below(2) == 0
	for _, f := range r.scope {
		if aggregates && r.below(4) == 0 {
			groups = append(groups, r.column(f))
		}
	}
	parts := append(r.items(groups, aggregates), tables...)
	if len(tables) == 2 {
		parts = append(parts, joinOn(r.expr(impl.VaBool, 5, false)))
	}
	if r.below(2) == 0 {
		parts = append(parts, where(r.expr(impl.VaBool, 7, false)))
	}
	if len(groups) > 0 {
		parts = append(parts, node(impl.NdGroup, "", groups...))
	}
	for _, part := range r.items(groups, aggregates && len(groups) > 0)[1:] {
		parts = append(parts, falling(part.Kids[0]))
	}
	return query(parts...)
}

// items look at grouped columns alone, where rows are groups and nothing slips.
func (r *roller) items(groups []impl.Tree, aggregates bool) []impl.Tree {
	var parts []impl.Tree
	for range 1 + r.below(3) {
		switch {
		case len(groups) > 0 && r.below(3) == 0:
			parts = append(parts, item(groups[r.below(len(groups))]))
		case aggregates && !r.slips():
			parts = append(parts, item(r.aggregate(r.kind(), 4)))
		default:
			parts = append(parts, item(r.expr(r.kind(), 6, aggregates)))
		}
		if r.below(3) == 0 {
			parts[len(parts)-1].Name = r.pick("id a b")
		}
	}
	return parts
}
