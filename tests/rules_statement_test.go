package tests

import (
	"strings"
	"testing"

	"loop.example/g00208/impl"
)

// wants are statements with the changes that they ask for, ` | ` between, or a code.
type wants []struct {
	s, want string
	code    int
}

func wantAllChanges(t *testing.T, data []impl.Data, list wants) {
	t.Helper()
	for _, c := range list {
		var want []impl.Change
		if c.want != "" {
			want = changeList(strings.Split(c.want, " | ")...)
		}
		wantChanges(t, parsed(c.s), ruledTables(), data, want, c.code)
		wantChanges(t, parsed(c.s), withoutIndexes(ruledTables()), data, want, c.code)
	}
}

func TestChangesOfStatements(t *testing.T) {
	wantAllChanges(t, ruledData(), wants{
		{"insert into notes values (2, 'two')", "insert notes: 2, 'two'", 0}, {"insert into notes values (1 + 1 * 3, null)", "insert notes: 4, null", 0}, {"insert into notes values (1, 'there')", "insert notes: 1, 'there'", 0}, {"insert into cases values (-7 / 2, '', -1 % 2, 1 > 2 or null)", "insert cases: -3, '', -1, null", 0}, {"insert into marks values (x'ff', 'a', null)", "insert marks: x'ff', 'a', null", 0},
		{"delete from cases", "delete cases: 1, 'open', 5, true | delete cases: 2, 'done', 0, false | delete cases: 3, null, null, null | delete cases: 5, 'open', 7, null", 0}, {"delete from cases where status = 'open'", "delete cases: 1, 'open', 5, true | delete cases: 5, 'open', 7, null", 0}, {"delete from cases where n > 0 and flag", "delete cases: 1, 'open', 5, true", 0}, {"delete from cases where null", "", 0}, {"delete from cases where false", "", 0}, {"delete from cases where n = null", "", 0}, {"delete from cases where cases.n is null", "delete cases: 3, null, null, null", 0}, {"delete from log where at = 3", "delete log: 1, 3, null, 4", 0}, {"delete from notes where id > 10", "", 0},
		{"update cases set n = n + 1", "update cases: 1, 'open', 5, true > 1, 'open', 6, true | update cases: 2, 'done', 0, false > 2, 'done', 1, false | update cases: 3, null, null, null > 3, null, null, null | update cases: 5, 'open', 7, null > 5, 'open', 8, null", 0}, {"update cases set n = 0 where id = 2", "update cases: 2, 'done', 0, false > 2, 'done', 0, false", 0}, {"update cases set status = null where flag", "update cases: 1, 'open', 5, true > 1, null, 5, true", 0}, {"update cases set flag = status = 'open', status = 'x', n = id where id < 3", "update cases: 1, 'open', 5, true > 1, 'x', 1, true | update cases: 2, 'done', 0, false > 2, 'x', 2, false", 0}, {"update log set n = at, what = null where n > at", "update log: 1, 0, 'made', 2 > 1, 0, null, 0 | update log: 1, 3, null, 4 > 1, 3, null, 3", 0}, {"update marks set other = word", "update marks: x'', 'a', 'b' > x'', 'a', 'a' | update marks: x'00', 'a', null > x'00', 'a', 'a'", 0}, {"update notes set what = what where false", "", 0},
	})
	wantAllChanges(t, emptyData(ruledTables()), wants{{"delete from cases", "", 0}, {"update cases set n = 1 / 0", "", 0}, {"delete from cases where 1 / 0 = 1", "", 0}, {"insert into notes values (1, 'x')", "insert notes: 1, 'x'", 0}})
}

// All sets look at the row as it was.
func TestSetsLookAtTheOldRow(t *testing.T) {
	list := []impl.Table{table("t", "id int, a int null, b int null, c int null", 1)}
	data := dataOf("t: 1, 2, 3, 4; 2, 5, 6, null")
	for s, want := range map[string]string{
		"update t set a = b, b = a": "update t: 1, 2, 3, 4 > 1, 3, 2, 4 | update t: 2, 5, 6, null > 2, 6, 5, null", "update t set a = a + 1, b = a + 1, c = a + 1": "update t: 1, 2, 3, 4 > 1, 3, 3, 3 | update t: 2, 5, 6, null > 2, 6, 6, 6", "update t set c = a, b = c, a = b where a < 5": "update t: 1, 2, 3, 4 > 1, 3, 4, 2", "update t set a = null, b = a * c": "update t: 1, 2, 3, 4 > 1, null, 8, 4 | update t: 2, 5, 6, null > 2, null, null, null",
	} {
		wantChanges(t, parsed(s), list, data, changeList(strings.Split(want, " | ")...), impl.OK)
	}
}

// Those of where come first, whichever row has them; then those of sets, row by row; then rows that may not be.
func TestFaultsOfChanges(t *testing.T) {
	big := "999999999999999999 * 10"
	wantAllChanges(t, ruledData(), wants{
		{"insert into notes values (1 / 0, 'x')", "", impl.ErrZero}, {"insert into notes values (" + big + ", 'x')", "", impl.ErrRange}, {"insert into notes values (null, 'x')", "", impl.ErrNull}, {"insert into cases values (null, 'x', 1 / 0, true)", "", impl.ErrZero}, {"insert into cases values (1 / 0, 'x', " + big + ", true)", "", impl.ErrZero}, {"insert into cases values (" + big + ", 'x', 1 / 0, true)", "", impl.ErrRange}, {"insert into log values (1, null, null, null)", "", impl.ErrNull}, {"insert into log values (1, 2, null, null)", "", impl.ErrNull},
		{"delete from cases where 1 / n = 1", "", impl.ErrZero}, {"delete from cases where id < 2 and 1 / n = 1", "", impl.ErrZero}, {"delete from cases where n * " + big + " > 0", "", impl.ErrRange}, {"delete from cases where 1 / (id - 2) * " + big + " > 0", "", impl.ErrRange}, {"delete from cases where 1 / (id - 1) * " + big + " > 0", "", impl.ErrZero},
		{"update cases set n = 1 / n", "", impl.ErrZero}, {"update cases set n = 1 / n where n > 0", "update cases: 1, 'open', 5, true > 1, 'open', 0, true | update cases: 5, 'open', 7, null > 5, 'open', 0, null", 0}, {"update cases set n = n * " + big, "", impl.ErrRange}, {"update cases set n = id * " + big + ", flag = 1 / 0 = 1", "", impl.ErrRange}, {"update cases set flag = 1 / 0 = 1, n = id * " + big, "", impl.ErrZero}, {"update cases set n = " + big + " where 1 / (id - 5) < 0", "", impl.ErrZero}, {"update cases set n = 1 / 0 where id * " + big + " > 0", "", impl.ErrRange}, {"update cases set n = 10 / (id - 2), flag = (id - 1) * " + big + " > 0", "", impl.ErrZero}, {"update cases set n = 10 / (id - 2), flag = (id - 3) * " + big + " > 0", "", impl.ErrRange}, {"update cases set flag = (id - 2) * " + big + " > 0, n = 10 / (id - 2)", "", impl.ErrRange},
		{"update log set n = null", "", impl.ErrNull}, {"update log set n = null where at = 7", "", 0}, {"update log set n = null where 1 / at > 0", "", impl.ErrZero}, {"update log set n = n / at", "", impl.ErrZero}, {"update log set n = null, what = 'a'", "", impl.ErrNull},
	})
	list := []impl.Table{table("t", "id int, a int, b int null", 1)}
	for words, code := range map[string]int{"1, 1, null; 2, 2, 0": impl.ErrZero, "1, 1, 0; 2, 2, null": impl.ErrZero, "1, 1, null; 2, 2, 2": impl.ErrNull, "1, 1, 2; 2, 2, null": impl.ErrNull, "1, 1, null; 2, 2, 5": impl.ErrRange} {
		data := []impl.Data{{Name: "t", Rows: lines(words)}}
		wantChanges(t, parsed("update t set a = b, b = 12 / b + (b - 2) * "+big), list, data, nil, code)
	}
}

func TestOrderOfCodesOfChanges(t *testing.T) {
	list, right := ruledTables(), ruledData()
	wrong, short := ruledData(), ruledData()[:3]
	wrong[0].Rows[1][0] = num(1)
	long, longTables := make([]impl.Data, impl.MaxList+1), manyTables(impl.MaxList+1)
	for s, code := range map[string]int{
		"delete from none": impl.ErrName, "delete from cases where none": impl.ErrName, "delete from cases where n": impl.ErrType, "insert into notes values (1)": impl.ErrCount, "insert into notes values ('a', 'b')": impl.ErrType, "insert into notes values (id, 'b')": impl.ErrName, "update cases set id = 1": impl.ErrGuard, "update cases set n = 1, n = 2": impl.ErrTwice, "update cases set n = 'a'": impl.ErrType, "update cases set none = 1": impl.ErrName, "select none from cases": impl.ErrName, "select id, count(*) from cases": impl.ErrCount,
		"select id from cases": impl.ErrBad, "select 1 / 0 from cases where 1 / 0 = 1": impl.ErrBad,
	} {
		for _, data := range [][]impl.Data{right, wrong, short, nil, long[:impl.MaxList]} {
			wantChanges(t, parsed(s), list, data, nil, code)
		}
		wantChanges(t, parsed(s), list, long, nil, impl.ErrLong)
	}
	for _, s := range []string{"delete from cases", "update cases set n = 1 / 0", "insert into notes values (null, 'x')", "insert into notes values (5, 'x')"} {
		for _, data := range [][]impl.Data{wrong, short, nil, {}, right[1:], long[:impl.MaxList]} {
			wantChanges(t, parsed(s), list, data, nil, impl.ErrBad)
		}
		for _, tables := range [][]impl.Table{nil, list, wrongCatalogs()[0], longTables} {
			wantChanges(t, parsed(s), tables, long, nil, impl.ErrLong)
		}
		for _, data := range [][]impl.Data{nil, right, wrong, emptyData(longTables)} {
			wantChanges(t, parsed(s), longTables, data, nil, impl.ErrLong)
		}
		wantChanges(t, parsed(s), manyTables(impl.MaxList), right, nil, impl.ErrBad)
		wantChanges(t, parsed(s), nil, nil, nil, impl.ErrName)
	}
	for _, n := range []impl.Tree{{}, {Kind: least, N: greatest}, field("id"), insertInto("cases"), updateOf("cases"), deleteFrom(strings.Repeat("c", impl.MaxText+1)), insertInto("notes", agg("count"), lit(impl.Value{})), updateOf("cases", setTo("n", agg("count")))} {
		wantChanges(t, n, list, right, nil, impl.ErrBad)
		wantChanges(t, n, list, long, nil, impl.ErrLong)
	}
}

// Numbers at the ends of all ints, and as many rows as a table may have.
func TestGreatChanges(t *testing.T) {
	list := []impl.Table{table("t", "id int, n int null", 1)}
	data := []impl.Data{{Name: "t", Rows: [][]impl.Value{{num(least), num(greatest)}, {num(0), {}}, {num(greatest), num(least)}}}}
	wantChanges(t, parsed("update t set n = id"), list, data, []impl.Change{updated("t", row(num(least), num(greatest)), row(num(least), num(least))), updated("t", row(num(0), impl.Value{}), row(num(0), num(0))), updated("t", row(num(greatest), num(least)), row(num(greatest), num(greatest)))}, impl.OK)
	wantChanges(t, parsed("update t set n = n + 1 where id < 0"), list, data, nil, impl.ErrRange)
	wantChanges(t, parsed("update t set n = n - 1 where id > 0"), list, data, nil, impl.ErrRange)
	wantChanges(t, parsed("delete from t where -n > 0"), list, data, nil, impl.ErrRange)
	wantChanges(t, parsed("delete from t where id > 0 or id is null"), list, data, []impl.Change{deleted("t", row(num(greatest), num(least)))}, impl.OK)
	full := []impl.Data{{Name: "t", Rows: manyRows(impl.MaxRows, 2)}}
	var all, gone []impl.Change
	for _, r := range full[0].Rows {
		all = append(all, updated("t", r, row(r[0], r[0])))
		gone = append(gone, deleted("t", r))
	}
	wantChanges(t, parsed("update t set n = id"), list, full, all, impl.OK)
	wantChanges(t, parsed("delete from t"), list, full, gone, impl.OK)
	wantChanges(t, parsed("update t set n = id where id >= 398"), list, full, all[398:], impl.OK)
	wantChanges(t, parsed("insert into t values (7, 7)"), list, full, []impl.Change{inserted("t", row(num(7), num(7)))}, impl.OK) // whether it may be there is not asked yet
}

// rolledChanging is a statement that is no query, in most cases.
func rolledChanging(d *dice, list []impl.Table, slip int) impl.Tree {
	for range 5 {
		if n := rolledSql(d, list, slip); letterOf(n) != 's' {
			return n
		}
	}
	return rolledSql(d, list, slip)
}

// Rolled statements over rolled data, by the words; each change that they ask for is right.
func TestRolledChangesOfStatements(t *testing.T) {
	d := &dice{state: 520}
	count, some := map[int]int{}, 0
	for i := range 4000 {
		list := [][]impl.Table{ruledTables(), typedTables(), plannedTables()}[i%3]
		n := rolledChanging(d, list, []int{0, 0, 0, 30}[d.below(4)])
		data := rolledData(d, list, 8)
		if d.below(50) == 0 {
			data[d.below(len(data))].Name = "other"
		}
		want, code := changesByWords(n, list, data)
		wantChanges(t, n, list, data, want, code)
		count[code]++
		if len(want) > 1 {
			some++
		}
		for _, c := range want {
			if names, told := impl.MatchRules(nil, list, c); len(names) > 0 || told != impl.OK {
				t.Error("a change that is not right", shownChange(c))
			}
		}
		if t.Failed() {
			t.Fatal("and no more are asked")
		}
	}
	for _, code := range []int{impl.OK, impl.ErrBad, impl.ErrName, impl.ErrType, impl.ErrZero, impl.ErrRange, impl.ErrNull} {
		if count[code] < 10 {
			t.Error("few of", impl.CodeWord(code), count)
		}
	}
	if some < 300 {
		t.Error("few of several changes", some)
	}
}
