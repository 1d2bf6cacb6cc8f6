package tests

import (
	"slices"
	"strings"
	"testing"

	"loop.example/g00208/impl"
)

func TestStepsOfGuards(t *testing.T) {
	ways := guard("cases", 1, ">open", "open>done", "done>open", "open>open", "a>")
	for words, want := range map[string]bool{
		"insert cases: 1, 'open', 1, true": true, "insert cases: 1, 'done', 1, true": false, "insert cases: 1, null, 1, true": false, "insert cases: 1, '', 1, true": false, "insert cases: 1, 'Open', 1, true": false, "insert cases: 1, 'open ', 1, true": false,
		"update cases: 1, 'open' > 1, 'done'": true, "update cases: 1, 'done' > 1, 'open'": true, "update cases: 1, 'open' > 1, 'open'": true, "update cases: 1, 'done' > 1, 'done'": true, "update cases: 1, 'x' > 1, 'x'": true, "update cases: 1, null > 1, null": true, "update cases: 1, null > 1, ''": true, "update cases: 1, '' > 1, null": true, "update cases: 1, null > 1, 'open'": true, "update cases: 1, '' > 1, 'open'": true, "update cases: 1, null > 1, 'done'": false, "update cases: 1, 'open' > 1, null": false, "update cases: 1, 'a' > 1, null": true, "update cases: 1, 'a' > 1, ''": true, "update cases: 1, 'a' > 1, 'open'": false, "update cases: 1, 'open' > 1, 'a'": false, "update cases: 2, 'open', 7 > 1, 'done'": true,
		"delete cases: 1, 'open'": true, "delete cases: 1": true, "delete cases: null": true, "insert notes: 1, 'done'": true, "update notes: 1, 'done' > 1, 'x'": true, "insert notes: 1": true, "update notes: 1 > 2": true, "delete notes: 1": true,
	} {
		wantLet(t, ways, changeOf(words), want, impl.OK)
	}
	none := guard("cases", 1)
	for words, want := range map[string]bool{"insert cases: 1, 'open'": false, "insert cases: 1, null": false, "update cases: 1, 'a' > 1, 'b'": false, "update cases: 1, 'a' > 1, 'a'": true, "delete cases: 1, 'a'": true, "insert notes: 1, 'a'": true} {
		wantLet(t, none, changeOf(words), want, impl.OK)
	}
	wantLet(t, guard("cases", 1, ">"), changeOf("insert cases: 1, null"), true, impl.OK)
	wantLet(t, guard("cases", 1, ">"), changeOf("insert cases: 1, ''"), true, impl.OK)
	wantLet(t, guard("cases", 0, "1>2"), changeOf("update cases: 1 > 2"), true, impl.OK) // ints have no text
	wantLet(t, impl.Guard{}, impl.Change{}, false, impl.ErrBad)
	wantLet(t, impl.Guard{}, changeOf("insert cases: 1"), true, impl.OK)
}

// The old row of an insert and the new one of a delete say nothing.
func TestRowsThatGuardsLookAt(t *testing.T) {
	ways := guard("cases", 1, ">a", "a>b")
	open, b, short := one("1, 'a'"), one("1, 'b'"), one("1")
	for i, c := range []struct {
		event    int
		old, new []impl.Value
		want     bool
		code     int
	}{
		{impl.EvInsert, nil, open, true, impl.OK}, {impl.EvInsert, b, open, true, impl.OK}, {impl.EvInsert, short, open, true, impl.OK}, {impl.EvInsert, open, b, false, impl.OK}, {impl.EvInsert, open, short, false, impl.ErrBad}, {impl.EvInsert, open, nil, false, impl.ErrBad},
		{impl.EvUpdate, open, b, true, impl.OK}, {impl.EvUpdate, short, b, false, impl.ErrBad}, {impl.EvUpdate, open, short, false, impl.ErrBad}, {impl.EvUpdate, short, short, false, impl.ErrBad}, {impl.EvUpdate, nil, nil, false, impl.ErrBad},
		{impl.EvDelete, nil, nil, true, impl.OK}, {impl.EvDelete, short, b, true, impl.OK}, {impl.EvDelete, b, open, true, impl.OK},
		{0, open, b, true, impl.OK}, {0, open, open, false, impl.OK}, {4, b, open, false, impl.OK}, {4, nil, open, false, impl.ErrBad}, {least, open, short, false, impl.ErrBad}, {greatest, one("1, null"), open, true, impl.OK},
	} {
		change := impl.Change{Event: c.event, Table: "cases", Old: c.old, New: c.new}
		wantLet(t, ways, change, c.want, c.code)
		change.Table = "notes"
		wantLet(t, ways, change, true, impl.OK)
		if t.Failed() {
			t.Fatal(i)
		}
	}
}

// Rows of MaxCells values and one more, as many steps as there may be and one more, columns that rows lack.
func TestBoundsOfSteps(t *testing.T) {
	for _, size := range []int{0, 1, 2, 7, 8, 9, 10, impl.MaxList, impl.MaxList + 1} {
		long := make([]impl.Value, size)
		for _, event := range []int{0, 1, 2, 3, 4} {
			for _, name := range []string{"cases", "other"} {
				for _, sides := range [][2][]impl.Value{{long, long}, {long, nil}, {nil, long}, {long, one("1, 'a'")}, {one("1, 'a'"), long}} {
					c := impl.Change{Event: event, Table: name, Old: sides[0], New: sides[1]}
					g := guard("cases", 1, ">a", "a>", ">")
					lets, code := stepByWords(g, c)
					if size > impl.MaxCells && code != impl.ErrBad {
						t.Error("by the words", size, code)
					}
					wantLet(t, g, c, lets, code)
				}
			}
		}
	}
	for size, code := range map[int]int{0: impl.OK, 19: impl.OK, 20: impl.OK, 21: impl.ErrBad, impl.MaxList: impl.ErrBad, impl.MaxList + 1: impl.ErrBad} {
		g := impl.Guard{Table: "cases", Column: 1, Steps: make([]impl.Entry, size)}
		for _, words := range []string{"insert notes: 1", "delete cases: 1", "update cases: 1, 'a' > 1, 'a'"} {
			wantLet(t, g, changeOf(words), code == impl.OK, code)
		}
		wantLet(t, g, changeOf("insert cases: 1, null"), code == impl.OK && size > 0, code)
	}
	for _, column := range []int{least, -1, 0, 1, 2, 3, 256, greatest} {
		g := guard("cases", column, ">", "a>b")
		lacks := column < 0 || column > 1
		for _, words := range []string{"insert cases: 1, 'a'", "update cases: 1, 'a' > 1, 'c'"} {
			code := map[bool]int{true: impl.ErrBad, false: impl.OK}[lacks]
			wantLet(t, g, changeOf(words), column == 0, code) // ints have no text: a step from none to none
		}
		for _, words := range []string{"delete cases: 1, 'a'", "insert notes: 1", "update notes: 1 > 1"} {
			wantLet(t, g, changeOf(words), true, impl.OK)
		}
	}
}

// Texts of steps and rows beyond their bounds are held against each other all the same.
func TestLongTextsOfSteps(t *testing.T) {
	long := strings.Repeat("s", impl.MaxText+1)
	g := impl.Guard{Table: long, Column: 0, Steps: []impl.Entry{{Value: long}, {Key: long, Value: long[1:]}}}
	wantLet(t, g, inserted(long, row(text(long))), true, impl.OK)
	wantLet(t, g, inserted(long, row(text(long[1:]))), false, impl.OK)
	wantLet(t, g, updated(long, row(text(long)), row(text(long[1:]))), true, impl.OK)
	wantLet(t, g, updated(long, row(text(long[1:])), row(text(long))), false, impl.OK)
	wantLet(t, g, inserted(long[1:], row(text("a"))), true, impl.OK)
}

// someMatched are rules of one table and event with others between; their names tell nothing of their order.
func someMatched() []impl.Rule {
	return rules("b on cases insert 5 when true", "c on cases update 0 when true", "a on cases insert 5 when false", "z on cases insert 0 when null", "a on notes insert 0 when true", "m on cases insert 100 when true", "a on cases delete 5 when true", "b on cases insert 4 when true into notes (1, null)")
}

func TestMatchedRules(t *testing.T) {
	list := ruledTables()
	for words, want := range map[string]string{
		"insert cases: 1, 'a', 1, true": "z b a b m", "update cases: 1, 'a', 1, true > 1, 'b', 2, null": "c", "delete cases: 1, 'a', 1, true": "a", "insert notes: 1, null": "a", "update notes: 1, null > 1, 'a'": "", "delete notes: 1, null": "", "insert log: 1, 2, null, 3": "",
	} {
		wantMatched(t, someMatched(), list, changeOf(words), strings.Fields(want), impl.OK)
		turned := someMatched()
		slices.Reverse(turned)
		wantMatched(t, turned, list, changeOf(words), strings.Fields(want), impl.OK)
		wantMatched(t, nil, list, changeOf(words), nil, impl.OK)
	}
	c := changeOf("insert cases: 1, 'a', 1, true")
	for _, x := range []struct{ given, want string }{
		{"a1 b1 c1", "a b c"}, {"c1 b1 a1", "a b c"}, {"a2 b1 c0", "c b a"}, {"a0 b1 c2", "a b c"}, {"b1 a1 b0 a0", "a b a b"}, {"B1 a1 A1 b1 _1", "A B _ a b"}, {"a1 aa1 a01 a_1", "a a0 a_ aa"}, {"z0 a100 b99 y9 c10", "z y c b a"}, {"a7 a7 a7", "a a a"}, {"a2 a10 a1", "a a a"},
	} {
		var given []impl.Rule
		for _, word := range strings.Fields(x.given) {
			size := len(strings.TrimRight(word, "0123456789"))
			if word == "a01" {
				size = 2
			}
			given = append(given, rule(word[:size]+" on cases insert "+word[size:]+" when true"))
		}
		wantMatched(t, given, list, c, strings.Fields(x.want), impl.OK)
	}
}

func TestWhatIsMatchedThatIsNotRight(t *testing.T) {
	list, right := ruledTables(), changeOf("insert cases: 1, 'a', 1, true")
	for _, c := range wrongChanges() {
		wantMatched(t, someMatched(), list, c, nil, impl.ErrBad)
		wantMatched(t, nil, list, c, nil, impl.ErrBad)
	}
	many := func(size int) []impl.Rule {
		return slices.Repeat(rules("a on cases insert 1 when true"), size)
	}
	for size, code := range map[int]int{0: impl.OK, 1: impl.OK, 7: impl.OK, 8: impl.OK, 9: impl.ErrBad, impl.MaxList: impl.ErrBad, impl.MaxList + 1: impl.ErrLong} {
		var want []string
		if code == impl.OK {
			want = slices.Repeat([]string{"a"}, size)
		}
		wantMatched(t, many(size), list, right, want, code)
		wantMatched(t, many(size), list, changeOf("delete none: 1"), nil, max(code, impl.ErrBad))
		wantMatched(t, make([]impl.Rule, size), list, right, nil, map[bool]int{true: code, false: impl.ErrBad}[size == 0 || code == impl.ErrLong])
	}
	for at := range 8 { // whichever of them it is, of whatever table
		bad := someMatched()
		bad[at].Priority = 101
		wantMatched(t, bad, list, right, nil, impl.ErrBad)
	}
	for _, tables := range [][]impl.Table{nil, {}, wrongCatalogs()[0], manyTables(impl.MaxList), append(ruledTables(), ruledTables()[0])} {
		wantMatched(t, nil, tables, right, nil, impl.ErrBad)
		wantMatched(t, someMatched(), tables, right, nil, impl.ErrBad)
		wantMatched(t, many(impl.MaxList+1), tables, right, nil, impl.ErrLong)
	}
	wantMatched(t, nil, manyTables(impl.MaxList+1), right, nil, impl.ErrLong)
	wantMatched(t, many(9), manyTables(impl.MaxList+1), impl.Change{}, nil, impl.ErrLong)
	wantMatched(t, nil, list, impl.Change{Event: impl.EvInsert, Table: "cases", New: make([]impl.Value, impl.MaxList+1)}, nil, impl.ErrBad) // a list within a struct
	wantMatched(t, rules("a on cases insert 1 when true"), list[:1], right, []string{"a"}, impl.OK)
	wantMatched(t, rules("a on notes insert 1 when true"), list[:1], right, nil, impl.ErrBad)
}

// wrongChanges are not right in ruledTables, each for one reason.
func wrongChanges() []impl.Change {
	r, other := one("1, 'a', 1, true"), one("2, 'a', 1, true")
	list := []impl.Change{
		{}, {Table: "cases"}, inserted("none", r), updated("none", r, r), deleted("none", r), inserted("", r), inserted("Cases", r), inserted("notes", r), deleted("log", r), inserted(strings.Repeat("c", impl.MaxText+1), r), updated("cases", r, other), updated("cases", other, r), updated("cases", r, one("1, 'a', 1")), updated("cases", one("1, 'a', 1"), r), updated("log", one("1, 2, null, 3"), one("1, 3, null, 3")), updated("log", one("1, 2, null, 3"), one("2, 2, null, 3")), updated("marks", one("x'00', 'a', null"), one("x'00', 'b', null")),
		inserted("log", one("1, 2, null, null")), updated("log", one("1, 2, null, null"), one("1, 2, null, 3")), updated("log", one("1, 2, null, 3"), one("1, 2, null, null")), deleted("log", one("1, 2, null, null")),
	}
	for _, event := range []int{least, -1, 0, 4, 256 + 1, greatest} {
		list = append(list, impl.Change{Event: event, Table: "cases", Old: r, New: r})
	}
	bad := [][]impl.Value{nil, {}, r[:3], append(slices.Clone(r), impl.Value{}), one("null, 'a', 1, true"), one("'1', 'a', 1, true"), one("1, 1, 1, true"), one("1, 'a', 'a', true"), one("1, 'a', 1, 1"), make([]impl.Value, impl.MaxCells+1), make([]impl.Value, impl.MaxList), make([]impl.Value, impl.MaxList+1)}
	for _, v := range wrongValues() {
		bad = append(bad, row(v, text("a"), num(1), flag(1)), row(num(1), v, num(1), flag(1)), row(num(1), text("a"), num(1), v))
	}
	for _, r2 := range bad {
		list = append(list, inserted("cases", r2), updated("cases", r, r2), updated("cases", r2, r), updated("cases", r2, r2), deleted("cases", r2))
	}
	return list
}

func TestAppliedChanges(t *testing.T) {
	list := ruledTables()
	for _, c := range []struct {
		change string
		table  int
		want   string // the rows of the table behind it
		code   int
	}{
		{"insert cases: 4, 'a', 1, true", 0, "1, 'open', 5, true; 2, 'done', 0, false; 3, null, null, null; 4, 'a', 1, true; 5, 'open', 7, null", 0}, {"insert cases: 0, null, null, null", 0, "0, null, null, null; 1, 'open', 5, true; 2, 'done', 0, false; 3, null, null, null; 5, 'open', 7, null", 0}, {"insert cases: 9, null, null, null", 0, "1, 'open', 5, true; 2, 'done', 0, false; 3, null, null, null; 5, 'open', 7, null; 9, null, null, null", 0}, {"insert cases: -9, null, null, null", 0, "-9, null, null, null; 1, 'open', 5, true; 2, 'done', 0, false; 3, null, null, null; 5, 'open', 7, null", 0},
		{"insert cases: 3, null, null, null", 0, "", impl.ErrTwice}, {"insert cases: 1, 'other', 1, null", 0, "", impl.ErrTwice}, {"update cases: 1, 'x', 0, false > 1, 'y', 1, null", 0, "1, 'y', 1, null; 2, 'done', 0, false; 3, null, null, null; 5, 'open', 7, null", 0}, {"update cases: 5, null, null, null > 5, null, null, null", 0, "1, 'open', 5, true; 2, 'done', 0, false; 3, null, null, null; 5, null, null, null", 0}, {"update cases: 4, 'x', 0, false > 4, 'y', 1, null", 0, "", impl.ErrNone}, {"delete cases: 1, 'x', 0, false", 0, "2, 'done', 0, false; 3, null, null, null; 5, 'open', 7, null", 0}, {"delete cases: 5, 'open', 7, null", 0, "1, 'open', 5, true; 2, 'done', 0, false; 3, null, null, null", 0}, {"delete cases: 4, 'open', 7, null", 0, "", impl.ErrNone},
		{"insert log: 1, 2, 'a', 0", 1, "1, 0, 'made', 2; 1, 2, 'a', 0; 1, 3, null, 4", 0}, {"insert log: 1, 3, 'a', 0", 1, "", impl.ErrTwice}, {"insert log: 2, 0, 'a', 0", 1, "1, 0, 'made', 2; 1, 3, null, 4; 2, 0, 'a', 0", 0}, {"update log: 1, 3, null, 0 > 1, 3, 'a', 1", 1, "1, 0, 'made', 2; 1, 3, 'a', 1", 0}, {"delete log: 1, 0, null, 0", 1, "1, 3, null, 4", 0}, {"delete log: 1, 1, null, 0", 1, "", impl.ErrNone}, {"delete log: 0, 1, null, 0", 1, "", impl.ErrNone},
		{"insert marks: x'', 'b', null", 2, "x'', 'a', 'b'; x'', 'b', null; x'00', 'a', null", 0}, {"delete marks: x'', 'a', null", 2, "x'00', 'a', null", 0}, {"delete marks: x'0000', 'a', null", 2, "", impl.ErrNone}, {"insert notes: 5, 'five'", 3, "1, 'one'; 5, 'five'; 10, null", 0},
	} {
		var want []impl.Data
		if c.code == impl.OK {
			want = ruledData()
			want[c.table].Rows = lines(c.want)
		}
		wantApplied(t, list, ruledData(), changeOf(c.change), want, c.code)
		wantApplied(t, withoutIndexes(list), ruledData(), changeOf(c.change), want, c.code)
	}
	for _, event := range []int{impl.EvInsert, impl.EvDelete} { // what its event does not have may be any
		c := impl.Change{Event: event, Table: "notes", Old: one("1, 'x'"), New: one("5, 'y'")}
		want, code := applyByWords(list, ruledData(), c)
		for _, any := range [][]impl.Value{nil, one("1"), {wrongValues()[0]}, make([]impl.Value, impl.MaxList+1)} {
			bent := c
			*map[int]*[]impl.Value{impl.EvInsert: &bent.Old, impl.EvDelete: &bent.New}[event] = any
			wantApplied(t, list, ruledData(), bent, want, code)
		}
	}
}

func TestChangesOfFullTables(t *testing.T) {
	list := []impl.Table{table("a", "id int, n int null", 1), table("b", "id int", 1)}
	for size, code := range map[int]int{0: impl.OK, 398: impl.OK, 399: impl.OK, 400: impl.ErrFull, 401: impl.ErrBad} {
		data := emptyData(list)
		data[0].Rows = manyRows(size, 2)
		for _, at := range []int{-1, size} {
			want, words := applyByWords(list, data, inserted("a", row(num(at), num(1))))
			if words != code {
				t.Error("by the words", size, words)
			}
			wantApplied(t, list, data, inserted("a", row(num(at), num(1))), want, code)
		}
		if size == 400 {
			wantApplied(t, list, data, inserted("a", row(num(7), num(1))), nil, impl.ErrTwice)
			for _, c := range []impl.Change{updated("a", row(num(7), num(0)), row(num(7), num(1))), deleted("a", row(num(399), num(0))), inserted("b", row(num(1)))} {
				want, words := applyByWords(list, data, c)
				wantApplied(t, list, data, c, want, words)
				if words != impl.OK {
					t.Error(shownChange(c), words)
				}
			}
			wantApplied(t, list, data, deleted("a", row(num(400), num(0))), nil, impl.ErrNone)
		}
	}
}

func TestWhatIsAppliedThatIsNotRight(t *testing.T) {
	list, right := ruledTables(), changeOf("insert notes: 5, null")
	for _, c := range wrongChanges() {
		wantApplied(t, list, ruledData(), c, nil, impl.ErrBad)
	}
	wrong := ruledData()
	wrong[1].Rows[1][3] = impl.Value{}
	many := make([]impl.Data, impl.MaxList+1)
	for _, c := range []impl.Change{right, {}, changeOf("insert notes: 1, null"), changeOf("delete notes: 5, null")} {
		for _, bad := range [][]impl.Data{nil, {}, ruledData()[:3], ruledData()[1:], wrong, many[:impl.MaxList]} {
			wantApplied(t, list, bad, c, nil, impl.ErrBad)
		}
		for _, tables := range [][]impl.Table{nil, list[:3], wrongCatalogs()[0], manyTables(impl.MaxList)} {
			wantApplied(t, tables, ruledData(), c, nil, impl.ErrBad)
			wantApplied(t, tables, emptyData(tables), c, nil, impl.ErrBad)
			wantApplied(t, tables, many, c, nil, impl.ErrLong)
		}
		wantApplied(t, list, many, c, nil, impl.ErrLong)
		long := manyTables(impl.MaxList + 1)
		for _, data := range [][]impl.Data{nil, ruledData(), emptyData(long), many} {
			wantApplied(t, long, data, c, nil, impl.ErrLong)
		}
	}
}

// rolledChange is right of data in most cases; its table's keys are often there.
func rolledChange(d *dice, list []impl.Table, data []impl.Data) impl.Change {
	at := d.below(len(list))
	x, rows := list[at], data[at].Rows
	line := func() []impl.Value {
		r := row()
		for _, c := range x.Columns {
			r = append(r, rolledCell(d, c))
		}
		return r
	}
	old, made := line(), line()
	if len(rows) > 0 && d.below(3) > 0 {
		copy(old, rows[d.below(len(rows))][:x.Key])
	}
	if d.below(3) > 0 {
		copy(made, old[:x.Key])
	}
	c := impl.Change{Event: 1 + d.below(3), Table: x.Name, Old: old, New: made}
	if c.Event == impl.EvUpdate && d.below(6) > 0 {
		copy(made, old[:x.Key])
	}
	switch d.below(30) {
	case 0:
		c.Event = d.below(7) - 1
	case 1:
		c.Table = list[d.below(len(list))].Name
	case 2:
		c.New[d.below(len(made))] = impl.Value{}
	case 3:
		c.Old[d.below(len(old))] = text("x")
	}
	return c
}

// Rolled changes, one behind the other, by the words.
func TestRolledChanges(t *testing.T) {
	d := &dice{state: 510}
	count := map[int]int{}
	for range 60 {
		list := [][]impl.Table{ruledTables(), typedTables(), plannedTables()}[d.below(3)]
		data := rolledData(d, list, []int{0, 4, 12}[d.below(3)])
		for range 50 {
			c := rolledChange(d, list, data)
			want, code := applyByWords(list, data, c)
			wantApplied(t, list, data, c, want, code)
			count[code]++
			if code == impl.OK {
				data = want
				if !impl.DataOK(list, data) {
					t.Fatal("the data are not right any more")
				}
			}
			if t.Failed() {
				t.Fatal("and no more are tried")
			}
		}
	}
	for _, code := range []int{impl.OK, impl.ErrBad, impl.ErrTwice, impl.ErrNone} {
		if count[code] < 100 {
			t.Error("few of", impl.CodeWord(code), count)
		}
	}
}

func TestHistories(t *testing.T) {
	list := changeList("insert cases: 1, 'open', 1, true", "insert notes: 1, 'note'", "update cases: 1, 'open', 1, true > 1, 'done', 1, true", "insert cases: 2, 'other', 1, true", "update cases: 1, 'done', 1, true > 1, null, 2, true", "delete cases: 1, null, 2, true", "insert log: 1, 1, 'a', 0", "insert log: 1, 2, 'b', 0", "update log: 1, 2, 'b', 0 > 1, 2, 'c', 0", "insert cases: 1, 'again', 1, null")
	for _, c := range []struct {
		name   string
		column int
		key    string
		want   string
	}{
		{"cases", 1, "1", "open done - again"}, {"cases", 1, "2", "other"}, {"cases", 1, "3", ""}, {"cases", 0, "1", "- - - -"}, {"cases", 2, "1", "- - - -"}, {"cases", 1, "1, 'done'", "done"}, {"cases", 1, "1, 'done', 1, true", "done"}, {"cases", 1, "1, null", "-"}, {"cases", 1, "1, 'done', 1, true, null", ""}, {"cases", 1, "'1'", ""}, {"notes", 1, "1", "note"}, {"notes", 1, "2", ""}, {"log", 2, "1, 1", "a"}, {"log", 2, "1, 2", "b c"}, {"log", 2, "1", "a b c"}, {"log", 2, "2", ""}, {"none", 1, "1", ""}, {"", 1, "1", ""},
	} {
		var want []string
		for _, word := range strings.Fields(c.want) {
			want = append(want, strings.TrimPrefix(word, "-"))
		}
		wantHistory(t, list, c.name, c.column, one(c.key), want, impl.OK)
	}
	wantHistory(t, list, "notes", 1, nil, []string{"note"}, impl.OK)
	wantHistory(t, list, "log", 2, []impl.Value{}, []string{"a", "b", "c"}, impl.OK)
	wantHistory(t, list, "cases", 1, nil, nil, impl.ErrRange) // a delete's new row has no values: its first none are those of a key of none
	wantHistory(t, nil, "cases", 1, one("1"), nil, impl.OK)
	wantHistory(t, nil, "cases", -1, nil, nil, impl.OK)
}

// One that lacks the column is told, wherever it stands; of others nothing is asked.
func TestColumnsThatHistoriesLack(t *testing.T) {
	list := changeList("insert cases: 1, 'a', 'b'", "insert cases: 2", "update notes: 1 > 1", "update cases: 1, 'a' > 1, 'c'", "delete cases: 1", "insert notes: 2, 'x', 'y'")
	for _, c := range []struct {
		name   string
		column int
		key    int
		want   string
		code   int
	}{
		{"cases", 1, 1, "a c", 0}, {"cases", 2, 1, "", impl.ErrRange}, {"cases", 3, 1, "", impl.ErrRange}, {"cases", -1, 1, "", impl.ErrRange}, {"cases", least, 1, "", impl.ErrRange}, {"cases", greatest, 1, "", impl.ErrRange}, {"cases", 1, 2, "", impl.ErrRange}, {"cases", 1, 3, "", 0}, {"cases", greatest, 3, "", 0}, {"cases", -1, 3, "", 0}, {"notes", 1, 1, "", impl.ErrRange}, {"notes", 2, 2, "y", 0}, {"notes", 3, 2, "", impl.ErrRange}, {"log", least, 1, "", 0},
	} {
		wantHistory(t, list, c.name, c.column, row(num(c.key)), strings.Fields(c.want), c.code)
	}
}

func TestBoundsOfHistories(t *testing.T) {
	long := strings.Repeat("n", impl.MaxText+1)
	many := slices.Repeat(changeList("insert cases: 1, 'a'"), impl.MaxList+1)
	wantHistory(t, many[1:], "cases", 1, one("1"), slices.Repeat([]string{"a"}, impl.MaxList), impl.OK)
	for _, column := range []int{1, 2, -1} {
		wantHistory(t, many, "cases", column, one("1"), nil, impl.ErrLong)
		wantHistory(t, many[:1], long, column, one("1"), nil, impl.ErrLong)
		wantHistory(t, many[:1], "cases", column, make([]impl.Value, impl.MaxList+1), nil, impl.ErrLong)
		wantHistory(t, many[:1], long[1:], column, one("1"), nil, impl.OK)
		wantHistory(t, many[:1], "cases", column, make([]impl.Value, impl.MaxList), nil, impl.OK)
	}
	keys := make([]impl.Value, impl.MaxList+1)
	wantHistory(t, []impl.Change{inserted(long, keys)}, "cases", 1, nil, nil, impl.OK) // within structs all is bounded by nothing
	wantHistory(t, []impl.Change{inserted("cases", keys)}, "cases", impl.MaxList, keys[1:], []string{""}, impl.OK)
	for _, event := range []int{least, 0, 3, 77} { // nothing is asked of the event
		c := impl.Change{Event: event, Table: "cases", New: one("1, 'a'")}
		wantHistory(t, []impl.Change{c}, "cases", 1, one("1"), []string{"a"}, impl.OK)
	}
	for _, v := range wrongValues() {
		wantHistory(t, []impl.Change{inserted("cases", row(num(1), v))}, "cases", 1, one("1"), []string{v.T}, impl.OK)
		wantHistory(t, []impl.Change{inserted("cases", row(v, text("a")))}, "cases", 1, row(v), []string{"a"}, impl.OK)
	}
}

func TestRolledHistories(t *testing.T) {
	d := &dice{state: 515}
	some := 0
	for range 400 {
		list := ruledTables()
		data := rolledData(d, list, 3)
		var given []impl.Change
		for range d.below(12) {
			given = append(given, rolledChange(d, list, data))
		}
		x := list[d.below(len(list))]
		key := row()
		if len(given) > 0 {
			key = given[d.below(len(given))].New
			key = key[:min(len(key), d.below(3))]
		}
		column := d.below(len(x.Columns)+2) - 1
		want, code := historyByWords(given, x.Name, column, key)
		wantHistory(t, given, x.Name, column, key, want, code)
		if len(want) > 1 {
			some++
		}
	}
	if some < 20 {
		t.Error("few of some texts", some)
	}
}
