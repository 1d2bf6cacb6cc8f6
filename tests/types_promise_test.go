package tests

import (
	"slices"
	"testing"

	"loop.example/g00208/impl"
)

// someScopes are fields of every type; some have names in common, and one has none at all.
func someScopes() [][]impl.Field {
	return [][]impl.Field{
		nil, everyType(), fields(casesFields), fields(casesFields + "," + notesFields), fields("x.id int, x.n int, y.id int, y.n text, id bool, b bytes, cases null"), fields("a bool, a int, b text"), manyFields(16),
	}
}

func wantSameType(t *testing.T, e impl.Tree, scope []impl.Field) int {
	t.Helper()
	want, wanted, place := typedByWords(e, scope)
	wantType(t, e, scope, want, wanted, place)
	return wanted
}

func TestTypesOfRolledExpressions(t *testing.T) {
	count := map[int]int{}
	for i, scope := range someScopes() {
		for _, slip := range []int{0, 4, 12, 40} {
			r := &roller{dice: dice{state: uint64(71 + i)}, scope: scope, slip: slip}
			for range 400 {
				e := r.expr(r.kind(), 1+r.below(30), r.below(2) == 0)
				count[wantSameType(t, e, scope)]++
				all := nodesOf(&e)
				*all[r.below(len(all))] = r.one(r.kind())
				count[wantSameType(t, e, scope)]++
				bendNode(&r.dice, all[0])
				count[wantSameType(t, e, scope)]++
			}
		}
	}
	d := &dice{state: 72}
	for range 2000 {
		count[wantSameType(t, rolledExpr(d, 1+d.below(10), 8, true), fields("a int, b bool, t text, x.n int, x.id bytes, x.a null"))]++
	}
	for _, code := range []int{impl.OK, impl.ErrBad, impl.ErrName, impl.ErrTwice, impl.ErrType} {
		if count[code] < 400 {
			t.Error("few of", impl.CodeWord(code), count)
		}
	}
}

// wantSameTold holds all that is told of a statement against the document's words.
func wantSameTold(t *testing.T, n impl.Tree, list []impl.Table) int {
	t.Helper()
	scope, code, place := scopeByWords(list, n)
	wantScope(t, list, n, scope, code, place)
	told, code, place := checkedByWords(n, list)
	wantChecked(t, n, list, told, code, place)
	isQuery := statementByWords(n) && letterOf(n) == 's'
	if yes, got := impl.Grouped(n); yes != (isQuery && groupedByWords(n)) || (got == impl.OK) != isQuery || got > impl.ErrBad {
		t.Errorf("Grouped %.500s: %v %d", drawn(n), yes, got)
	}
	return code
}

func TestRolledStatementsAreCheckedByTheWords(t *testing.T) {
	d := &dice{state: 73}
	list := typedTables()
	count := map[[2]int]int{}
	for _, slip := range []int{0, 6, 15, 40} {
		for range 3000 {
			n := rolledSql(d, list, slip)
			count[[2]int{n.Kind, wantSameTold(t, n, list)}]++
		}
	}
	for kind, codes := range map[int][]int{
		impl.NdSelect: {impl.OK, impl.ErrName, impl.ErrTwice, impl.ErrType, impl.ErrCount}, impl.NdInsert: {impl.OK, impl.ErrName, impl.ErrType, impl.ErrCount},
		impl.NdUpdate: {impl.OK, impl.ErrName, impl.ErrTwice, impl.ErrType, impl.ErrGuard}, impl.NdDelete: {impl.OK, impl.ErrName, impl.ErrType},
	} {
		for _, code := range codes {
			if count[[2]int{kind, code}] < 25 {
				t.Error("few of", kindWords[kind], impl.CodeWord(code), count)
			}
		}
	}
}

// Trees are bent at a node, and catalogs lose a table, or get one that is not right.
func TestBentStatementsAreCheckedByTheWords(t *testing.T) {
	d := &dice{state: 74}
	count := map[int]int{}
	for range 4000 {
		list := typedTables()
		n := roomyTree(rolledSql(d, list, 20))
		all := nodesOf(&n)
		bendNode(d, all[d.below(len(all))])
		switch d.below(8) {
		case 0:
			at := d.below(len(list))
			list = slices.Delete(list, at, at+1)
		case 1:
			list[d.below(len(list))].Key--
		case 2:
			at := d.below(len(list))
			list[at] = bendTable(d, list[at])
		}
		count[wantSameTold(t, n, list)]++
	}
	for range 1000 {
		count[wantSameTold(t, rolledStatement(d, 6), typedTables())]++
	}
	for _, code := range []int{impl.OK, impl.ErrBad, impl.ErrName, impl.ErrTwice, impl.ErrType, impl.ErrCount} {
		if count[code] < 25 {
			t.Error("few of", impl.CodeWord(code), count)
		}
	}
}

// machine works an expression out over the rows of a group; it stops where a value is not of the kind that is asked for, or a name is not found.
type machine struct {
	scope       []impl.Field
	rows        [][]impl.Value
	places      map[*impl.Tree]int
	code, place int
}

func (m *machine) stop(e *impl.Tree, code int) impl.Value {
	if m.code == impl.OK {
		m.code, m.place = code, m.places[e]
	}
	return impl.Value{}
}

func (m *machine) value(e *impl.Tree, row []impl.Value) impl.Value {
	switch kindWords[e.Kind] {
	case "lit":
		return e.Val
	case "col":
		at, code := fieldByWords(m.scope, e.Of, e.Name)
		if code != impl.OK {
			return m.stop(e, code)
		}
		return row[at]
	case "agg":
		return m.aggregate(e)
	}
	var values []impl.Value
	for i := range e.Kids {
		values = append(values, m.value(&e.Kids[i], row))
	}
	if m.code != impl.OK {
		return impl.Value{}
	}
	return m.operator(e, values)
}

// operator asks of the values alone what they are.
func (m *machine) operator(e *impl.Tree, values []impl.Value) impl.Value {
	wants := impl.VaInt
	switch e.Name {
	case "isnull", "isnotnull":
		return truth((values[0].Kind == impl.VaNull) == (e.Name == "isnull"))
	case "not", "and", "or":
		wants = impl.VaBool
	case "=", "<>", "<", "<=", ">", ">=":
		wants = values[0].Kind
		if wants == impl.VaNull {
			wants = values[1].Kind
		}
	}
	null := false
	for i, v := range values {
		null = null || v.Kind == impl.VaNull
		if v.Kind != impl.VaNull && v.Kind != wants {
			return m.stop(&e.Kids[i], impl.ErrType)
		}
	}
	switch {
	case e.Name == "and" && slices.Contains(values, flag(0)):
		return flag(0)
	case e.Name == "or" && slices.Contains(values, flag(1)):
		return flag(1)
	case null:
		return impl.Value{}
	}
	return result(e.Name, values)
}

func truth(yes bool) impl.Value { return flag(map[bool]int{true: 1}[yes]) }

// result is of values that are not null, and of the kind that is asked for; numbers may wrap, as it is their kind that counts.
func result(name string, values []impl.Value) impl.Value {
	a, b := values[0], values[len(values)-1]
	order, _ := impl.CompareValues(a, b)
	switch name {
	case "not":
		return flag(1 - a.N)
	case "and":
		return flag(a.N * b.N)
	case "or":
		return flag(max(a.N, b.N))
	case "=":
		return truth(order == 0)
	case "<>":
		return truth(order != 0)
	case "<":
		return truth(order < 0)
	case "<=":
		return truth(order <= 0)
	case ">":
		return truth(order > 0)
	case ">=":
		return truth(order >= 0)
	}
	return num(a.N*3 + b.N)
}

func (m *machine) aggregate(e *impl.Tree) impl.Value {
	if len(e.Kids) == 0 {
		return num(len(m.rows))
	}
	var values []impl.Value
	for _, row := range m.rows {
		v := m.value(&e.Kids[0], row)
		if e.Name == "sum" && v.Kind != impl.VaInt && v.Kind != impl.VaNull {
			return m.stop(&e.Kids[0], impl.ErrType)
		}
		if v.Kind != impl.VaNull {
			values = append(values, v)
		}
	}
	order := func(a, b impl.Value) int { n, _ := impl.CompareValues(a, b); return n }
	switch {
	case e.Name == "count":
		return num(len(values))
	case len(values) == 0:
		return impl.Value{}
	case e.Name == "max":
		return slices.MaxFunc(values, order)
	}
	return slices.MinFunc(values, order)
}

// workedOut is an expression's value over rows, or the code and the place at which it stops.
func workedOut(e *impl.Tree, scope []impl.Field, rows [][]impl.Value) (impl.Value, int, int) {
	m := &machine{scope: scope, rows: rows, places: placesIn(e)}
	v := m.value(e, rows[0])
	if m.code != impl.OK {
		return impl.Value{}, m.code, m.place
	}
	return v, impl.OK, 0
}

// rolledGroup are rows of fields; some values are null, if not all are known.
func rolledGroup(d *dice, scope []impl.Field, known bool) [][]impl.Value {
	values := [][]impl.Value{{{}}, {flag(0), flag(1)}, {num(-1), num(0), num(7)}, {text(""), text("a"), text("b")}, {raw(""), raw("\x00")}}
	var rows [][]impl.Value
	for range 1 + d.below(3) {
		var r []impl.Value
		for _, f := range scope {
			v := values[f.Type][d.below(len(values[f.Type]))]
			if !known && d.below(3) == 0 {
				v = impl.Value{}
			}
			r = append(r, v)
		}
		rows = append(rows, r)
	}
	return rows
}

// An expression that has a type has values of that type, or null.
func TestValuesAreOfTheirType(t *testing.T) {
	count := map[bool]int{}
	for i, scope := range someScopes() {
		for _, slip := range []int{0, 20} {
			r := &roller{dice: dice{state: uint64(80 + i)}, scope: scope, slip: slip}
			for range 400 {
				e := r.expr(r.kind(), 1+r.below(25), r.below(2) == 0)
				kind, got, _ := impl.TypeOf(e, scope)
				if got != impl.OK {
					continue
				}
				for range 3 {
					rows := rolledGroup(&r.dice, scope, false)
					v, code, at := workedOut(&e, scope, rows)
					if code != impl.OK || v.Kind != impl.VaNull && v.Kind != kind {
						t.Fatalf("%s is of type %d, but of %v it is %v (%d at %d)", drawn(e), kind, rows, v, code, at)
					}
					count[v.Kind == impl.VaNull]++
				}
			}
		}
	}
	if count[true] < 1000 || count[false] < 1000 {
		t.Error("few of a kind", count)
	}
}

// Where nothing is null, types and faults are just those that the values show.
func TestTypesAreThoseOfValuesThatAreKnown(t *testing.T) {
	count := map[int]int{}
	for i, scope := range someScopes() {
		known := slices.DeleteFunc(slices.Clone(scope), func(f impl.Field) bool { return f.Type == impl.VaNull })
		for _, slip := range []int{0, 5, 15} {
			r := &roller{dice: dice{state: uint64(90 + i)}, scope: known, slip: slip, known: true}
			for range 500 {
				e := r.expr(r.kind(), 1+r.below(25), r.below(2) == 0)
				v, code, at := workedOut(&e, known, rolledGroup(&r.dice, known, true))
				wantType(t, e, known, v.Kind, code, at)
				count[code]++
			}
		}
	}
	for _, code := range []int{impl.OK, impl.ErrName, impl.ErrTwice, impl.ErrType} {
		if count[code] < 200 {
			t.Error("few of", impl.CodeWord(code), count)
		}
	}
}

// Each part of a query is right or at fault, in all ways: the first fault is told, but that tables come ahead of all else.
func TestTheFirstOfSomeFaults(t *testing.T) {
	parts := []struct {
		right, wrong string
		code, place  int
	}{
		{"select -1", "select -'a'", impl.ErrType, 3}, {", 2", ", none", impl.ErrName, 5}, {" from cases as a", " from nil as a", impl.ErrName, 6}, {" join notes as b", " join notes as a", impl.ErrTwice, 7}, {" on true", " on 1", impl.ErrType, 9}, {" where a.flag", " where flag", impl.ErrTwice, 11},
		{" group by status", " group by mark.n", impl.ErrName, 13}, {" order by 'a'", " order by what", impl.ErrCount, 15}, {", 1 + 1", ", 1 + 'a'", impl.ErrType, 19}, {" limit 1", " limit 2", impl.OK, 0},
	}
	for mask := range 1 << len(parts) {
		s, code, place, tables := "", impl.OK, 0, false
		for i, p := range parts {
			if mask>>i&1 == 0 {
				s += p.right
				continue
			}
			s += p.wrong
			isTable := i == 2 || i == 3
			if code == impl.OK || isTable && !tables {
				code, place = p.code, p.place
			}
			tables = tables || isTable
		}
		wantAllTold(t, []told{{s, code, place}})
	}
}
