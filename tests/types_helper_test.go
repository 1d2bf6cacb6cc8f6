package tests

import (
	"slices"
	"strings"
	"testing"

	"loop.example/g00208/impl"
)

// typedTables have columns of every type; some names are those of two columns, or of a table and a column.
func typedTables() []impl.Table {
	return roomyTables([]impl.Table{
		table("cases", "id int, status text, flag bool null, mark bytes null, n int null", 2, index("bystatus", 1)),
		table("id", "id bytes, cases bool", 1),
		table("notes", "id int, what text, flag bool, n text null", 1),
		table("one", "x int", 1),
		tableOf("wide", manyColumns(impl.MaxCells, 3), 3),
	})
}

// fields are of words such as "cases.id int, n null".
func fields(words string) []impl.Field {
	var list []impl.Field
	for _, w := range strings.FieldsFunc(words, func(c rune) bool { return c == ',' }) {
		part := strings.Fields(w)
		column := field(part[0])
		list = append(list, impl.Field{Of: column.Of, Name: column.Name, Type: slices.Index(typeNames, part[1])})
	}
	return roomy(list, impl.Field{Name: "behind", Type: 77})
}

// everyType has a field of each type, null too.
func everyType() []impl.Field { return fields("nothing null, f bool, i int, t text, b bytes") }

// sql is a statement that is right, whatever it asks for.
func sql(t *testing.T, s string) impl.Tree {
	t.Helper()
	n, got, at := impl.ParseSql(s)
	if got != impl.OK {
		t.Fatalf("%s: %s at %d", s, impl.CodeWord(got), at)
	}
	return n
}

// expr is a query's first item.
func expr(t *testing.T, s string) impl.Tree {
	t.Helper()
	return sql(t, "select "+s+" from t").Kids[0].Kids[0]
}

// wantTold asks for a code and a place, and with a code for nothing else.
func wantTold(t *testing.T, what string, got, at, wanted, place int, empty bool) {
	t.Helper()
	if got != wanted || at != place {
		t.Errorf("%.500s: %s at %d, want %s at %d", what, impl.CodeWord(got), at, impl.CodeWord(wanted), place)
	}
	if got != impl.OK && !empty {
		t.Errorf("%.500s: %s, and more than that", what, impl.CodeWord(got))
	}
}

func wantScope(t *testing.T, list []impl.Table, n impl.Tree, want []impl.Field, wanted, place int) {
	t.Helper()
	scope, got, at := impl.ScopeOf(list, n)
	wantTold(t, "ScopeOf "+drawn(n), got, at, wanted, place, len(scope) == 0)
	if !slices.Equal(scope, want) {
		t.Errorf("ScopeOf %.500s: %v, want %v", drawn(n), scope, want)
	}
}

func wantField(t *testing.T, scope []impl.Field, of, name string, want, wanted int) {
	t.Helper()
	at, got := impl.FindField(scope, of, name)
	if at != want || got != wanted {
		t.Errorf("FindField %.50q.%.50q in %.300v: %d %s, want %d %s", of, name, scope, at, impl.CodeWord(got), want, impl.CodeWord(wanted))
	}
}

func wantType(t *testing.T, e impl.Tree, scope []impl.Field, want, wanted, place int) {
	t.Helper()
	kind, got, at := impl.TypeOf(e, scope)
	wantTold(t, "TypeOf "+drawn(e), got, at, wanted, place, kind == 0)
	if kind != want {
		t.Errorf("TypeOf %.500s: %d, want %d", drawn(e), kind, want)
	}
}

func wantChecked(t *testing.T, n impl.Tree, list []impl.Table, want []impl.Field, wanted, place int) {
	t.Helper()
	told, got, at := impl.CheckSql(n, list)
	wantTold(t, "CheckSql "+drawn(n), got, at, wanted, place, len(told) == 0)
	if !slices.Equal(told, want) {
		t.Errorf("CheckSql %.500s: %v, want %v", drawn(n), told, want)
	}
}

// placesIn has the number of each node of a tree.
func placesIn(n *impl.Tree) map[*impl.Tree]int {
	places := map[*impl.Tree]int{}
	for place, p := range nodesOf(n) {
		places[p] = place
	}
	return places
}

// kidsFirst are a tree's nodes, each behind its kids.
func kidsFirst(n *impl.Tree) []*impl.Tree {
	var list []*impl.Tree
	for i := range n.Kids {
		list = append(list, kidsFirst(&n.Kids[i])...)
	}
	return append(list, n)
}

func catalogRight(list []impl.Table) bool {
	wrong := func(t impl.Table) bool { return !tableByWords(t) }
	ahead := func(a, b impl.Table) int { return strings.Compare(a.Name, b.Name) }
	names := map[string]int{}
	for _, t := range list {
		names[t.Name]++
	}
	return len(list) <= 6 && !slices.ContainsFunc(list, wrong) && slices.IsSortedFunc(list, ahead) && len(names) == len(list)
}

func exprRight(e impl.Tree) bool {
	size, deep := 0, 0
	measure(e, 1, &size, &deep)
	return size <= 120 && deep <= 20 && strings.Contains("lcba", string(letterOf(e))) && nodesByWords(e, "I")
}

func scopeRight(scope []impl.Field) bool {
	isName := func(t string) bool { return len(t) <= 40 && nameForm.MatchString(t) }
	for _, f := range scope {
		if !isName(f.Name) || f.Of != "" && !isName(f.Of) || f.Type < 0 || f.Type > 4 {
			return false
		}
	}
	return len(scope) <= 16
}

// scopeByWords is what ScopeOf is to tell.
func scopeByWords(list []impl.Table, n impl.Tree) ([]impl.Field, int, int) {
	if len(list) > 4096 {
		return nil, impl.ErrLong, 0
	}
	if !catalogRight(list) || !statementByWords(n) {
		return nil, impl.ErrBad, 0
	}
	var scope []impl.Field
	twice, seen := 0, map[string]int{}
	for place, p := range nodesOf(&n) {
		if letterOf(*p) != 'T' && !strings.Contains("iud", string(letterOf(*p))) {
			continue
		}
		at := slices.IndexFunc(list, func(t impl.Table) bool { return t.Name == p.Name })
		if at < 0 {
			return nil, impl.ErrName, place
		}
		of := p.Of
		if of == "" {
			of = p.Name
		}
		if seen[of]++; seen[of] == 2 {
			twice = place
		}
		for _, c := range list[at].Columns {
			scope = append(scope, impl.Field{Of: of, Name: c.Name, Type: c.Type})
		}
	}
	if twice > 0 {
		return nil, impl.ErrTwice, twice
	}
	return scope, impl.OK, 0
}

// foundByWords are the places of all fields of a name.
func foundByWords(scope []impl.Field, of, name string) []int {
	var list []int
	for i, f := range scope {
		if f.Name == name && slices.Contains([]string{f.Of, ""}, of) {
			list = append(list, i)
		}
	}
	return list
}

func fieldByWords(scope []impl.Field, of, name string) (int, int) {
	switch found := foundByWords(scope, of, name); len(found) {
	case 0:
		return 0, impl.ErrName
	case 1:
		return found[0], impl.OK
	}
	return 0, impl.ErrTwice
}

// signatures tell of each operator what it is, then what it wants of its operands; `like` is the first one's type.
var signatures = map[string]string{
	"unary -": "int int", "unary not": "bool bool", "unary isnull": "bool any", "unary isnotnull": "bool any",
	"binary or": "bool bool bool", "binary and": "bool bool bool",
	"binary =": "bool any like", "binary <>": "bool any like", "binary <": "bool any like", "binary <=": "bool any like", "binary >": "bool any like", "binary >=": "bool any like",
	"binary +": "int int int", "binary -": "int int int", "binary *": "int int int", "binary /": "int int int", "binary %": "int int int",
	"agg count": "int any", "agg sum": "int int", "agg min": "like any", "agg max": "like any",
}

// nodeByWords is the type of a node whose kids have theirs, or a code and the node that it is told at.
func nodeByWords(p *impl.Tree, types map[*impl.Tree]int, scope []impl.Field) (int, int, *impl.Tree) {
	word := kindWords[p.Kind]
	switch word {
	case "lit":
		return p.Val.Kind, impl.OK, nil
	case "col":
		at, code := fieldByWords(scope, p.Of, p.Name)
		if code != impl.OK {
			return 0, code, p
		}
		return scope[at].Type, impl.OK, nil
	}
	like := "any"
	if len(p.Kids) > 0 {
		like = typeNames[types[&p.Kids[0]]]
	}
	wants := strings.Fields(strings.ReplaceAll(signatures[word+" "+p.Name], "like", like))
	for i := range p.Kids {
		if is := typeNames[types[&p.Kids[i]]]; is != "null" && !slices.Contains([]string{is, "any", "null"}, wants[i+1]) {
			return 0, impl.ErrType, &p.Kids[i]
		}
	}
	return slices.Index(typeNames, wants[0]), impl.OK, nil
}

// typeByWords is what is to be told of a right expression; no column may be one of the loose ones.
func typeByWords(e *impl.Tree, scope []impl.Field, loose []*impl.Tree) (int, int, int) {
	places, types := placesIn(e), map[*impl.Tree]int{}
	for _, p := range kidsFirst(e) {
		kind, code, at := nodeByWords(p, types, scope)
		if code == impl.OK && slices.Contains(loose, p) {
			code, at = impl.ErrCount, p
		}
		if code != impl.OK {
			return 0, code, places[at]
		}
		types[p] = kind
	}
	return types[e], impl.OK, 0
}

func typedByWords(e impl.Tree, scope []impl.Field) (int, int, int) {
	if len(scope) > 4096 {
		return 0, impl.ErrLong, 0
	}
	if !exprRight(e) || !scopeRight(scope) {
		return 0, impl.ErrBad, 0
	}
	return typeByWords(&e, scope, nil)
}

// outside are the nodes of an expression that stand in no aggregate, in the order in which they are counted.
func outside(e *impl.Tree) []*impl.Tree {
	if letterOf(*e) == 'a' {
		return nil
	}
	list := []*impl.Tree{e}
	for i := range e.Kids {
		list = append(list, outside(&e.Kids[i])...)
	}
	return list
}

func groupedByWords(n impl.Tree) bool {
	return slices.ContainsFunc(nodesOf(&n), func(p *impl.Tree) bool { return strings.Contains("Ga", string(letterOf(*p))) })
}

// checker holds a statement against its fields, part by part.
type checker struct {
	n      *impl.Tree
	scope  []impl.Field
	places map[*impl.Tree]int
	key    int
	set    []string
}

// expression is an expression's type; null stands for all that it may be.
func (c *checker) expression(e *impl.Tree, wants int, loose ...*impl.Tree) (int, int, int) {
	kind, code, at := typeByWords(e, c.scope, loose)
	if code != impl.OK {
		return 0, code, c.places[e] + at
	}
	if wants != impl.VaNull && kind != impl.VaNull && kind != wants {
		return 0, impl.ErrType, c.places[e]
	}
	return kind, impl.OK, 0
}

// loose are the columns of an item or order that are not grouped by, outside of aggregates.
func (c *checker) loose(e *impl.Tree) []*impl.Tree {
	groups := map[int]int{}
	for _, p := range nodesOf(c.n) {
		for _, column := range p.Kids {
			if at, code := fieldByWords(c.scope, column.Of, column.Name); letterOf(*p) == 'G' && code == impl.OK {
				groups[at]++
			}
		}
	}
	var list []*impl.Tree
	for _, p := range outside(e) {
		if at, _ := fieldByWords(c.scope, p.Of, p.Name); letterOf(*p) == 'c' && groups[at] == 0 {
			list = append(list, p)
		}
	}
	return list
}

func (c *checker) query() ([]impl.Field, int, int) {
	var told []impl.Field
	for i := range c.n.Kids {
		part := &c.n.Kids[i]
		letter := string(letterOf(*part))
		for k := range part.Kids {
			wants, loose := impl.VaNull, []*impl.Tree(nil)
			if strings.Contains("OW", letter) {
				wants = impl.VaBool
			}
			if strings.Contains("IR", letter) && groupedByWords(*c.n) {
				loose = c.loose(&part.Kids[k])
			}
			kind, code, at := c.expression(&part.Kids[k], wants, loose...)
			if code != impl.OK {
				return nil, code, at
			}
			if letter == "I" {
				told = append(told, impl.Field{Name: nameByWords(part), Type: kind})
			}
		}
	}
	return told, impl.OK, 0
}

func nameByWords(item *impl.Tree) string {
	switch {
	case item.Name != "":
		return item.Name
	case letterOf(item.Kids[0]) == 'c':
		return item.Kids[0].Name
	}
	return ""
}

func (c *checker) insert() (int, int) {
	columns := c.scope
	c.scope = nil
	if len(c.n.Kids) != len(columns) {
		return impl.ErrCount, 0
	}
	for i := range c.n.Kids {
		if _, code, at := c.expression(&c.n.Kids[i], columns[i].Type); code != impl.OK {
			return code, at
		}
	}
	return impl.OK, 0
}

func (c *checker) change() (int, int) {
	for i := range c.n.Kids {
		part := &c.n.Kids[i]
		if letterOf(*part) == 'W' {
			_, code, at := c.expression(&part.Kids[0], impl.VaBool)
			return code, at
		}
		if _, code, at := c.expression(&part.Kids[0], impl.VaNull); code != impl.OK {
			return code, at
		}
		column := slices.IndexFunc(c.scope, func(f impl.Field) bool { return f.Name == part.Name })
		switch {
		case column < 0:
			return impl.ErrName, c.places[part]
		case column+1 <= c.key:
			return impl.ErrGuard, c.places[part]
		case slices.Contains(c.set, part.Name):
			return impl.ErrTwice, c.places[part]
		}
		c.set = append(c.set, part.Name)
		if _, code, at := c.expression(&part.Kids[0], c.scope[column].Type); code != impl.OK {
			return code, at
		}
	}
	return impl.OK, 0
}

// checkedByWords is what CheckSql is to tell.
func checkedByWords(n impl.Tree, list []impl.Table) ([]impl.Field, int, int) {
	scope, code, place := scopeByWords(list, n)
	if code != impl.OK {
		return nil, code, place
	}
	c := checker{n: &n, scope: scope, places: placesIn(&n)}
	for _, t := range list {
		if t.Name == n.Name {
			c.key = t.Key
		}
	}
	switch letterOf(n) {
	case 's':
		return c.query()
	case 'i':
		code, place = c.insert()
	default:
		code, place = c.change()
	}
	return nil, code, place
}
