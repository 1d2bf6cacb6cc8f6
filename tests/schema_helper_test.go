package tests

import (
	"fmt"
	"math"
	"reflect"
	"regexp"
	"slices"
	"strconv"
	"strings"

	"loop.example/g00208/impl"
)

var statementWords = strings.Fields("select from join on where group by order limit desc insert into values update set delete and or not is null true false count sum min max as")

var typeNames = []string{"null", "bool", "int", "text", "bytes"}

// oddNames are names, though they look like what else stands in a table's text, or nearly like a word of statements.
var oddNames = []string{"_", "A", "z9", "key", "index", "bool", "int", "text", "bytes", "Select", "NULL", "nulls", "nul", "_null", "As", "keys", "longest", "table", "create", longName}

// col is of words such as "id int" or "status text null".
func col(words string) impl.Column {
	part := strings.Fields(words)
	return impl.Column{Name: part[0], Type: slices.Index(typeNames, part[1]), Null: len(part) > 2}
}

// cols are such columns, commas between.
func cols(words string) []impl.Column {
	var list []impl.Column
	for _, w := range strings.Split(words, ",") {
		list = append(list, col(w))
	}
	return list
}

func index(name string, columns ...int) impl.Index {
	return impl.Index{Name: name, Columns: roomy(columns, 77)}
}

// tableOf has lists with room behind their ends.
func tableOf(name string, columns []impl.Column, key int, indexes ...impl.Index) impl.Table {
	return impl.Table{Name: name, Columns: roomy(columns, col("behind int")), Key: key, Indexes: roomy(indexes, index("behind", 7))}
}

func table(name, columns string, key int, indexes ...impl.Index) impl.Table {
	return tableOf(name, cols(columns), key, indexes...)
}

// manyColumns are of all types, null where they may be behind a key.
func manyColumns(count, key int) []impl.Column {
	var list []impl.Column
	for i := range count {
		list = append(list, impl.Column{Name: fmt.Sprint("c", i), Type: 1 + i%4, Null: i >= key && i%3 > 0})
	}
	return list
}

func manyIndexes(count int) []impl.Index {
	var list []impl.Index
	for i := range count {
		list = append(list, index(fmt.Sprint("x", i), 0))
	}
	return list
}

func manyTables(count int) []impl.Table {
	var list []impl.Table
	for i := range count {
		list = append(list, table(fmt.Sprintf("t%05d", i), "id int, more text null", 1, index("bymore", 1)))
	}
	return list
}

// cloneTable has nil for lists that are empty, as these are the same.
func cloneTable(t impl.Table) impl.Table {
	t.Columns = append([]impl.Column(nil), t.Columns...)
	t.Indexes = append([]impl.Index(nil), t.Indexes...)
	for i, x := range t.Indexes {
		t.Indexes[i].Columns = append([]int(nil), x.Columns...)
	}
	return t
}

func cloneTables(list []impl.Table) []impl.Table {
	var made []impl.Table
	for _, t := range list {
		made = append(made, cloneTable(t))
	}
	return made
}

func sameTable(a, b impl.Table) bool { return reflect.DeepEqual(cloneTable(a), cloneTable(b)) }

func sameTables(a, b []impl.Table) bool { return slices.EqualFunc(a, b, sameTable) }

// roomyTable has lists of its own, with room behind their ends.
func roomyTable(t impl.Table) impl.Table {
	t = cloneTable(t)
	for i, x := range t.Indexes {
		t.Indexes[i].Columns = roomy(x.Columns, 77)
	}
	return tableOf(t.Name, t.Columns, t.Key, t.Indexes...)
}

func roomyTables(list []impl.Table) []impl.Table {
	var made []impl.Table
	for _, t := range list {
		made = append(made, roomyTable(t))
	}
	return roomy(made, impl.Table{Name: "behind"})
}

// behindTable are a table's lists with what stands behind their ends.
func behindTable(t impl.Table) impl.Table {
	t.Columns = t.Columns[:cap(t.Columns)]
	t.Indexes = slices.Clone(t.Indexes[:cap(t.Indexes)])
	for i, x := range t.Indexes {
		t.Indexes[i].Columns = x.Columns[:cap(x.Columns)]
	}
	return t
}

func behindTables(list []impl.Table) []impl.Table {
	var made []impl.Table
	for _, t := range list[:cap(list)] {
		made = append(made, behindTable(t))
	}
	return made
}

// scribbleTable writes over the indexes last, as they lead to their columns.
func scribbleTable(t impl.Table) {
	for _, x := range behindTable(t).Indexes {
		scribbleList(x.Columns, -9)
	}
	scribbleList(t.Columns[:cap(t.Columns)], col("scribbled bool"))
	scribbleList(t.Indexes[:cap(t.Indexes)], index("scribbled", -9))
}

func scribbleTables(list []impl.Table) {
	for _, t := range list[:cap(list)] {
		scribbleTable(t)
	}
	scribbleList(list[:cap(list)], impl.Table{Name: "scribbled"})
}

func rightTables() []impl.Table {
	list := []impl.Table{
		table("cases", "id int, status text null", 1, index("bystatus", 1)),
		table("a", "a bool", 1), table("a", "a int", 1), table("a", "a text", 1), table("a", "a bytes", 1),
		table("a", "a bool, b bool null", 1), table("a", "a int, b int null", 1), table("a", "a text, b text null", 1), table("a", "a bytes, b bytes null", 1),
		table("a", "a int, b int", 1), table("a", "a int, b int", 2), table("a", "a int, b int, c int null, d int", 2), table("a", "a int, b int null, c int, d int null", 1),
		table("t", "a int, b text", 1, index("t", 0), index("a", 1), index("b", 1), index("A", 0, 1)),
		table("t", "a int, b text, c bool null", 2, index("x", 2, 1, 0), index("y", 0, 2), index("z", 2)),
		table("int", "int int, text text, key bytes null, index bool null, bool int", 2, index("index", 3, 2), index("key", 1)),
		table("t", "a int, A int, aa int", 3, index("i", 2), index("I", 2)),
		tableOf("t", manyColumns(impl.MaxCells, 1), 1, manyIndexes(impl.MaxIndexes)...), tableOf("t", manyColumns(impl.MaxCells, impl.MaxCells), impl.MaxCells),
		tableOf("t", manyColumns(impl.MaxCells, 3), 3, index("all", 7, 6, 5, 4, 3, 2, 1, 0), index("some", 0, 7), index("two", 4, 3), index("last", 7)),
		tableOf("t", manyColumns(3, 1), 1, manyIndexes(3)...), tableOf("t", manyColumns(7, 7), 7, manyIndexes(1)...),
	}
	for i, name := range oddNames {
		other := oddNames[(i+1)%len(oddNames)]
		list = append(list, table(name, "a int", 1), table("t", "a int,"+name+" text null", 1, index(name, 1, 0), index(other, 0)), table("t", name+" int", 1, index(name, 0)))
	}
	return list
}

// wrongNamesHere are no names of tables, columns or indexes.
func wrongNamesHere() []string { return append(noNames(), statementWords...) }

// wrongTables are wrong each for one reason.
func wrongTables() []impl.Table {
	list := []impl.Table{
		{}, tableOf("t", nil, 0), tableOf("t", nil, 1), tableOf("t", manyColumns(impl.MaxCells+1, 1), 1), tableOf("t", manyColumns(impl.MaxCells+1, 9), impl.MaxCells+1), tableOf("t", manyColumns(impl.MaxList+1, 1), 1),
		table("t", "a int, a int", 1), table("t", "a int, a text null", 1), table("t", "a int, b int, a int", 1), table("t", "a int, b int, b int", 3),
		table("t", "a int null", 1), table("t", "a int, b int null", 2), table("t", "a int, b int null, c int", 3), table("t", "a int null, b int", 2),
		tableOf("t", manyColumns(3, 1), 1, manyIndexes(impl.MaxIndexes+1)...), tableOf("t", manyColumns(3, 1), 1, manyIndexes(impl.MaxList+1)...),
	}
	for _, key := range []int{math.MinInt, -1, 0, 4, 8, 9, 256 + 1, math.MaxInt} {
		list = append(list, table("t", "a int, b int, c int", key))
	}
	for _, kind := range []int{math.MinInt, -1, impl.VaNull, impl.VaBytes + 1, 256 + 1, math.MaxInt} {
		for at := range 3 {
			t := table("t", "a int, b int, c int null", 2)
			t.Columns[at].Type = kind
			list = append(list, t)
		}
	}
	for _, name := range wrongNamesHere() {
		list = append(list, table(name, "a int", 1), tableOf("t", []impl.Column{{Name: name, Type: impl.VaInt}}, 1), table("t", "a int", 1, index(name, 0)))
		for at := range 3 {
			t := table("t", "a int, b int, c int null", 2, index("x", 0), index("y", 1), index("z", 2))
			t.Columns[at].Name = name
			other := table("t", "a int, b int, c int null", 2, index("x", 0), index("y", 1), index("z", 2))
			other.Indexes[at].Name = name
			list = append(list, t, other)
		}
	}
	return append(list, tablesOfWrongIndexes()...)
}

func tablesOfWrongIndexes() []impl.Table {
	var list []impl.Table
	add := func(indexes ...impl.Index) {
		list = append(list, table("t", "a int, b int, c int null", 2, indexes...))
	}
	for _, x := range wrongIndexes() {
		add(x)
		add(index("first", 0), x)
		add(x, index("last", 2), index("other", 1))
	}
	add(index("x", 0), index("x", 0))
	add(index("x", 0), index("x", 1))
	add(index("x", 0), index("y", 1), index("x", 2))
	add(index("w", 0), index("x", 0), index("y", 1), index("y", 2))
	return list
}

// wrongIndexes are wrong of a table of three columns.
func wrongIndexes() []impl.Index {
	list := []impl.Index{index("x"), index("x", 0, 0), index("x", 0, 1, 0), index("x", 1, 2, 2), index("x", 0, 1, 2, 0), index("x", 0, 1, 2, 3), {Name: "x", Columns: make([]int, impl.MaxList+1)}}
	for _, at := range []int{math.MinInt, -1, 3, 4, 256, math.MaxInt} {
		list = append(list, index("x", at), index("x", 0, at), index("x", at, 1))
	}
	return list
}

func rightCatalogs() [][]impl.Table {
	a, b, c := table("a", "id int", 1), table("b", "id int, other text null", 1, index("x", 1)), table("c", "id text, n bytes", 2, index("x", 1), index("y", 0))
	long := table(longName, "id int", 1)
	return [][]impl.Table{
		nil, {}, {a}, {c}, {a, b}, {a, b, c}, {b, long}, {table("A", "id int", 1), table("Z", "id int", 1), table("_", "id int", 1), a, table("a0", "id int", 1), table("aa", "id int", 1)},
		manyTables(impl.MaxTables - 1), manyTables(impl.MaxTables),
	}
}

// wrongCatalogs are wrong each for one reason.
func wrongCatalogs() [][]impl.Table {
	a, b := table("a", "id int", 1), table("b", "id int", 1)
	list := [][]impl.Table{
		manyTables(impl.MaxTables + 1), manyTables(impl.MaxList), {b, a}, {a, a}, {a, table("a", "id text", 1)}, {a, b, b}, {a, table("c", "id int", 1), b},
		{a, table("Z", "id int", 1)}, {table("aa", "id int", 1), a}, slices.Repeat([]impl.Table{a}, impl.MaxTables),
	}
	for i, t := range wrongTables() {
		if i%3 == 0 {
			list = append(list, []impl.Table{t})
		}
		t.Name = "ab"
		if i%5 == 0 && !tableByWords(t) {
			list = append(list, []impl.Table{a, t}, []impl.Table{a, t, b}, []impl.Table{t, b})
		}
	}
	return list
}

var nameForm = regexp.MustCompile(`^[A-Za-z_][A-Za-z0-9_]*$`)

// rightName tells by the document's words whether a name may stand here.
func rightName(t string) bool {
	return len(t) <= impl.MaxName && nameForm.MatchString(t) && !slices.Contains(statementWords, t)
}

// tableByWords tells by the document's words whether a table is right.
func tableByWords(t impl.Table) bool {
	seen := map[string]int{}
	for i, c := range t.Columns {
		seen[c.Name]++
		inKey := i+1 <= t.Key
		if !rightName(c.Name) || c.Type < impl.VaBool || c.Type > impl.VaBytes || inKey && c.Null {
			return false
		}
	}
	indexed := map[string]int{}
	for _, x := range t.Indexes {
		indexed[x.Name]++
		if !rightIndex(x, len(t.Columns)) {
			return false
		}
	}
	count := len(t.Columns)
	return rightName(t.Name) && len(seen) == count && len(indexed) == len(t.Indexes) && 1 <= count && count <= 8 && 1 <= t.Key && t.Key <= count && len(t.Indexes) <= 4
}

func rightIndex(x impl.Index, columns int) bool {
	places := map[int]int{}
	for _, at := range x.Columns {
		places[at]++
		if at < 0 || at > columns-1 || places[at] > 1 {
			return false
		}
	}
	return rightName(x.Name) && len(places) > 0
}

// textByWords is a right table's text.
func textByWords(t impl.Table) string {
	var columns []string
	for _, c := range t.Columns {
		columns = append(columns, c.Name+" "+typeNames[c.Type]+map[bool]string{true: " null"}[c.Null])
	}
	s := fmt.Sprintf("%s(%s) key %d", t.Name, strings.Join(columns, ", "), t.Key)
	for _, x := range t.Indexes {
		var list []string
		for _, at := range x.Columns {
			list = append(list, t.Columns[at].Name)
		}
		s += fmt.Sprintf(" index %s(%s)", x.Name, strings.Join(list, ", "))
	}
	return s
}

var (
	tableForm = regexp.MustCompile(`^(\w+)\((\w+ \w+(?: null)?(?:, \w+ \w+(?: null)?)*)\) key (0|[1-9][0-9]{0,17})((?: index \w+\(\w+(?:, \w+)*\))*)$`)
	indexForm = regexp.MustCompile(` index (\w+)\(([^)]*)\)`)
)

// readByWords is the table of a text; false unless the text is just a right table's.
func readByWords(s string) (impl.Table, bool) {
	part := tableForm.FindStringSubmatch(s)
	if part == nil {
		return impl.Table{}, false
	}
	t := impl.Table{Name: part[1]}
	for _, words := range strings.Split(part[2], ", ") {
		t.Columns = append(t.Columns, col(words))
	}
	t.Key, _ = strconv.Atoi(part[3])
	for _, found := range indexForm.FindAllStringSubmatch(part[4], -1) {
		x := impl.Index{Name: found[1]}
		for _, name := range strings.Split(found[2], ", ") {
			x.Columns = append(x.Columns, slices.IndexFunc(t.Columns, func(c impl.Column) bool { return c.Name == name }))
		}
		t.Indexes = append(t.Indexes, x)
	}
	return t, tableByWords(t)
}

// rolledNames are different ones.
func rolledNames(d *dice, count int) []string {
	pool := append(slices.Clone(oddNames), "id", "status", "a", "b", "c", "aa", "bystatus")
	for i := range count {
		at := i + d.below(len(pool)-i)
		pool[i], pool[at] = pool[at], pool[i]
	}
	return pool[:count]
}

func rolledIndex(d *dice, name string, columns int) impl.Index {
	places := run(0, columns)
	for i := range places {
		at := i + d.below(columns-i)
		places[i], places[at] = places[at], places[i]
	}
	return index(name, places[:1+d.below(columns)]...)
}

// rolledTable is right.
func rolledTable(d *dice, name string) impl.Table {
	t := tableOf(name, nil, 0)
	for _, name := range rolledNames(d, 1+d.below(impl.MaxCells)) {
		t.Columns = append(t.Columns, impl.Column{Name: name, Type: 1 + d.below(4), Null: d.below(2) == 0})
	}
	t.Key = 1 + d.below(len(t.Columns))
	for i := range t.Key {
		t.Columns[i].Null = false
	}
	for _, name := range rolledNames(d, d.below(impl.MaxIndexes+1)) {
		t.Indexes = append(t.Indexes, rolledIndex(d, name, len(t.Columns)))
	}
	return roomyTable(t)
}

// bendTable changes something of a right table; it may be right all the same.
func bendTable(d *dice, t impl.Table) impl.Table {
	at, some := d.below(len(t.Columns)), append(slices.Clone(wrongNamesHere()), oddNames...)
	switch d.below(9) {
	case 0:
		t.Name = some[d.below(len(some))]
	case 1:
		t.Columns[at].Name = some[d.below(len(some))]
	case 2:
		t.Columns[at].Type = d.below(7) - 1
	case 3:
		t.Columns[at].Null = !t.Columns[at].Null
	case 4:
		t.Key = d.below(11) - 1
	case 5:
		t.Columns = append(t.Columns, t.Columns[at])
		t.Columns[len(t.Columns)-1].Name += map[bool]string{true: "x"}[d.below(3) > 0]
	case 6:
		t.Columns = t.Columns[:at]
	case 7:
		t.Indexes = append(t.Indexes, rolledIndex(d, some[d.below(len(some))], len(t.Columns)))
	case 8:
		x := index("bent", d.below(3), d.below(len(t.Columns)+2)-1, at)
		t.Indexes = append(t.Indexes, x)
	}
	return t
}

// rolledRow is a row of a table; many values stand in others too.
func rolledRow(d *dice, t impl.Table) []impl.Value {
	all := risingValues()
	r := row()
	for _, c := range t.Columns {
		of := slices.DeleteFunc(slices.Clone(all), func(v impl.Value) bool { return v.Kind != c.Type })
		switch {
		case c.Null && d.below(4) == 0:
			r = append(r, impl.Value{})
		case d.below(3) > 0:
			r = append(r, of[d.below(2)])
		default:
			r = append(r, of[d.below(len(of))])
		}
	}
	return r
}

// checkByWords is a row's code and the column at fault.
func checkByWords(t impl.Table, r []impl.Value) (int, int) {
	bad := func(v impl.Value) bool { return !impl.ValueOK(v) }
	switch {
	case len(r) > impl.MaxList:
		return impl.ErrLong, 0
	case !tableByWords(t) || len(r) > 8 || slices.ContainsFunc(r, bad):
		return impl.ErrBad, 0
	case len(r) != len(t.Columns):
		return impl.ErrCount, 0
	}
	for i, v := range r {
		c := t.Columns[i]
		if v.Kind == impl.VaNull && !c.Null {
			return impl.ErrNull, i
		}
		if v.Kind != impl.VaNull && v.Kind != c.Type {
			return impl.ErrType, i
		}
	}
	return impl.OK, 0
}
