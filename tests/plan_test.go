package tests

import (
	"fmt"
	"slices"
	"strings"
	"testing"

	"loop.example/g00208/impl"
)

// all is the plan of a table's rows without a range.
func all(name string) impl.Plan { return impl.Plan{Table: name, Index: -1} }

func ranged(name string, index int, low, high string, score int) impl.Plan {
	return impl.Plan{Table: name, Index: index, Low: low, High: high, Score: score}
}

// wantPlanned holds a query's plan against what is told here, and against the words.
func wantPlanned(t *testing.T, s string, list []impl.Table, want impl.Plan, wanted int) {
	t.Helper()
	n := sql(t, s)
	if words, code := planByWords(n, list); words != want || code != wanted {
		t.Errorf("%s: by the words %s %s", s, shownPlan(words), impl.CodeWord(code))
	}
	wantPlan(t, n, list, want, wanted)
}

// A column on either side of each sign.
func TestPlansOfOnePart(t *testing.T) {
	list := plannedTables()
	for _, c := range []struct {
		name, column, literal string
		index                 int
		v                     impl.Value
	}{
		{"cases", "id", "7", -1, num(7)}, {"cases", "cases.id", "0", -1, num(0)}, {"cases", "id", "999999999999999999", -1, num(999999999999999999)},
		{"cases", "status", "'open'", 0, text("open")}, {"cases", "status", "''", 0, text("")}, {"cases", "n", "3", 1, num(3)}, {"cases", "mark", "x'00ff'", 2, raw("\x00\xff")}, {"cases", "mark", "x''", 2, raw("")}, {"cases", "flag", "true", 3, flag(1)}, {"cases", "flag", "false", 3, flag(0)},
		{"notes", "about", "4", -1, num(4)}, {"notes", "at", "4", 1, num(4)}, {"plain", "id", "1", -1, num(1)}, {"words", "word", "'it''s'", -1, text("it's")}, {"words", "other", "'" + strings.Repeat("a", impl.MaxCell) + "'", 0, text(strings.Repeat("a", impl.MaxCell))},
	} {
		key, behind := keyOf(c.v), behindOf(c.v)
		for sign, want := range map[string]impl.Plan{
			"=": ranged(c.name, c.index, key, behind, 4), "<": ranged(c.name, c.index, "", key, 1), "<=": ranged(c.name, c.index, "", behind, 1), ">": ranged(c.name, c.index, behind, "", 1), ">=": ranged(c.name, c.index, key, "", 1), "<>": all(c.name),
		} {
			turned := map[string]string{"=": "=", "<": ">", "<=": ">=", ">": "<", ">=": "<=", "<>": "<>"}[sign]
			left, right := c.column+" "+sign+" "+c.literal, c.literal+" "+turned+" "+c.column
			for _, held := range []string{left, right, left + " and true and not null", "true and " + right, "(" + left + ") and (" + right + " or true)"} {
				wantPlanned(t, "select 1 from "+c.name+" where "+held, list, want, impl.OK)
				wantPlanned(t, "select 1 / 0, count(*) from "+c.name+" where "+held+" order by -count(*) limit 1", list, want, impl.OK)
			}
			for _, other := range []string{left + " or false", "false or " + right, "not " + left, "not not " + right, "(" + left + ") is not null", "(" + right + ") = true", c.column + " " + sign + " null", "null " + sign + " " + c.column, c.column + " " + sign + " " + c.column, c.literal + " " + sign + " " + c.literal, left + " and 0 = -0"} {
				wantPlanned(t, "select 1 from "+c.name+" where "+other, list, all(c.name), impl.OK)
			}
		}
	}
}

// Where there is nothing to go by all rows are looked at.
func TestQueriesWithoutARange(t *testing.T) {
	list := plannedTables()
	for _, s := range []string{
		"cases", "cases as c", "cases group by id", "cases order by id", "cases limit 0", "cases where true", "cases where false", "cases where null", "cases where flag", "cases where not flag", "cases where id is null", "cases where n is not null", "cases where flag and flag or true",
		"cases where id <> 1", "cases where id = n", "cases where id = 1 or id = 1", "cases where not id = 1", "cases where (id = 1) = true", "cases where (id = 1) is not null", "cases where (id = 1) and false or status = 'a'", "cases where not (id = 1 and status = 'a')",
		"cases where flag or true", "cases where true or flag", "cases where flag and true", "cases where id = null", "cases where n = null and null = status",
		"cases where id = 1 and n + 1 = 2", "cases where n + 1 = 2 and id = 1", "cases where id = -1", "cases where -1 < id", "cases where id = 1 and -n = 2", "cases where id = 1 and 0 = 0 * 1", "cases where status = 'a' and id % 2 = 0", "cases where id = 1 and (flag or 1 / 0 = 1)", "cases where id = 1 + 1", "cases where id + 0 = 1", "cases where id = (1 - 1)", "cases where id = 1 and not n - 1 = 0", "cases where id = 1 and n * 1 is null",
	} {
		wantPlanned(t, "select 1 from "+s, list, all("cases"), impl.OK)
	}
	for _, s := range []string{"notes where what = 'a'", "notes where n = 1", "notes where what = 'a' and 3 > n and what >= ''"} {
		wantPlanned(t, "select 1 from "+s, list, all("notes"), impl.OK)
	}
	wantPlanned(t, "select 1 from plain where n = 1", list, all("plain"), impl.OK)
	wantPlanned(t, "select 1 from words where part = x'00' and x'00' = part", list, all("words"), impl.OK)
	wantPlanned(t, "select 1 from words where part = x'00' and word >= ''", list, ranged("words", -1, keyOf(text("")), "", 1), impl.OK)
}

// A query of two tables has none, whatever its where says; it is of the first table.
func TestPlansOfTwoTables(t *testing.T) {
	list := plannedTables()
	for s, want := range map[string]string{
		"select 1 from cases join notes on true where id = 1": "cases", "select 1 from notes join cases on id = 1 where about = 1 and status = 'a'": "notes", "select 1 from cases as a join cases as b on a.id = 1 where a.id = 1 and b.id = 1": "cases", "select 1 from plain as x join words as y on x.id = 1": "plain", "select 1 from words join plain on false where word = 'a'": "words",
	} {
		wantPlanned(t, s, list, all(want), impl.OK)
	}
}

// Several parts about one column, and about several.
func TestPlansOfSeveralParts(t *testing.T) {
	list := plannedTables()
	k := func(n int) string { return keyOf(num(n)) }
	b := func(n int) string { return behindOf(num(n)) }
	for s, want := range map[string]impl.Plan{
		"id > 1 and id <= 3": ranged("cases", -1, b(1), b(3), 2), "id >= 1 and id < 3": ranged("cases", -1, k(1), k(3), 2), "1 < id and 3 >= id": ranged("cases", -1, b(1), b(3), 2),
		"id > 1 and id > 2 and id > 0": ranged("cases", -1, b(2), "", 3), "id < 1 and id < 2 and id < 0": ranged("cases", -1, "", k(0), 3), "id > 2 and id >= 2": ranged("cases", -1, b(2), "", 2), "id >= 2 and id > 2": ranged("cases", -1, b(2), "", 2), "id < 2 and id <= 2": ranged("cases", -1, "", k(2), 2), "id <= 2 and id < 2": ranged("cases", -1, "", k(2), 2),
		"id = 1 and id = 1": ranged("cases", -1, k(1), b(1), 8), "id = 1 and id = 2": ranged("cases", -1, k(2), b(1), 8), "id = 2 and id = 1": ranged("cases", -1, k(2), b(1), 8), "id = 1 and id > 1": ranged("cases", -1, b(1), b(1), 5), "id = 1 and id < 1": ranged("cases", -1, k(1), k(1), 5), "id = 1 and id >= 1 and id <= 1": ranged("cases", -1, k(1), b(1), 6), "id > 3 and id < 2": ranged("cases", -1, b(3), k(2), 2), "id < 2 and id > 3": ranged("cases", -1, b(3), k(2), 2), "id > 2 and id < 3": ranged("cases", -1, b(2), k(3), 2),
		"id = 1 and id <> 1": ranged("cases", -1, k(1), b(1), 4), "id = 1 and id = null": ranged("cases", -1, k(1), b(1), 4), "id = 1 and id is null": ranged("cases", -1, k(1), b(1), 4), "id > 1 and (id < 3 or id = 7)": ranged("cases", -1, b(1), "", 1), "id > 1 and not id < 3": ranged("cases", -1, b(1), "", 1), "id > 1 and id < n": ranged("cases", -1, b(1), "", 1),
		"(id > 1 and n = 2) and (id < 9 and n < 5)": ranged("cases", 1, k(2), b(2), 5), "n >= 5 and n >= 6": ranged("cases", 1, k(6), "", 2), "cases.n >= 5 and 6 <= n": ranged("cases", 1, k(6), "", 2),
	} {
		wantPlanned(t, "select id from cases where "+s, list, want, impl.OK)
		wantPlanned(t, "select id from cases where ("+s+")", list, want, impl.OK)
		wantPlanned(t, "select id from cases where true and ("+s+") and flag is null", list, want, impl.OK)
		wantPlanned(t, "select id from cases where ("+s+") or false", list, all("cases"), impl.OK)
		wantPlanned(t, "select id from cases where ("+s+") and 0 = -0", list, all("cases"), impl.OK)
	}
	aliased := ranged("cases", -1, k(1), b(1), 4)
	wantPlanned(t, "select c.id from cases as c where c.id = 1 and c.status > 'a'", list, aliased, impl.OK)
	wantPlanned(t, "select id from cases as id where id.id = 1", list, aliased, impl.OK)
}

// The first with the most points is taken: the key ahead of indexes, an index ahead of those behind it.
func TestWhichWayIsTaken(t *testing.T) {
	list := plannedTables()
	k := func(n int) string { return keyOf(num(n)) }
	b := func(n int) string { return behindOf(num(n)) }
	open := [2]string{keyOf(text("open")), behindOf(text("open"))}
	for s, want := range map[string]impl.Plan{
		"id = 1 and status = 'open'": ranged("cases", -1, k(1), b(1), 4), "status = 'open' and id = 1": ranged("cases", -1, k(1), b(1), 4), "status = 'open' and id > 1": ranged("cases", 0, open[0], open[1], 4), "id > 1 and status >= 'open'": ranged("cases", -1, b(1), "", 1), "status >= 'open' and id > 1": ranged("cases", -1, b(1), "", 1),
		"n = 1 and status = 'open'": ranged("cases", 0, open[0], open[1], 4), "n = 1 and mark = x'61' and flag = true": ranged("cases", 1, k(1), b(1), 4), "flag = true and mark = x'61'": ranged("cases", 2, keyOf(raw("a")), behindOf(raw("a")), 4), "flag = true and id > 1 and id < 9 and id >= 2": ranged("cases", 3, keyOf(flag(1)), behindOf(flag(1)), 4), "flag = true and id > 1 and id < 9 and id >= 2 and id <= 8": ranged("cases", -1, k(2), b(8), 4),
		"flag = true and flag = true and id = 1": ranged("cases", 3, keyOf(flag(1)), behindOf(flag(1)), 8), "n > 1 and n < 3 and status > 'open' and id > 1": ranged("cases", 1, b(1), k(3), 2), "n > 1 and n < 3 and status > 'open' and status = 'open'": ranged("cases", 0, open[1], open[1], 5),
	} {
		wantPlanned(t, "select id from cases where "+s, list, want, impl.OK)
	}
	for s, want := range map[string]impl.Plan{
		"about = 1 and at = 2": ranged("notes", -1, k(1), b(1), 4), "at = 2 and about = 1": ranged("notes", -1, k(1), b(1), 4), "at = 2": ranged("notes", 1, k(2), b(2), 4), "at = 2 and about > 1": ranged("notes", 1, k(2), b(2), 4), "at > 2 and about > 1": ranged("notes", -1, b(1), "", 1), "at > 2 and n = 1 and what = 'a'": ranged("notes", 1, b(2), "", 1),
	} {
		wantPlanned(t, "select 1 from notes where "+s, list, want, impl.OK)
	}
	same := roomyTables([]impl.Table{table("t", "a int, b int", 1, index("w", 0), index("x", 1), index("y", 1), index("z", 1, 0))})
	wantPlanned(t, "select 1 from t where a = 1", same, ranged("t", -1, k(1), b(1), 4), impl.OK)
	wantPlanned(t, "select 1 from t where b = 1", same, ranged("t", 1, k(1), b(1), 4), impl.OK)
	wantPlanned(t, "select 1 from t where b = 1", withoutIndexes(same), all("t"), impl.OK)
	wantPlanned(t, "select 1 from t where a = 1", withoutIndexes(same), ranged("t", -1, k(1), b(1), 4), impl.OK)
}

// As many parts as a statement can hold: their points are within what a plan may have.
func TestPlansOfTheMostParts(t *testing.T) {
	list := plannedTables()
	var build func(count int) impl.Tree
	build = func(count int) impl.Tree {
		if count == 1 {
			return pair(field("id"), "=", lit(num(3)))
		}
		return pair(build(count/2), "and", build(count-count/2))
	}
	for count, code := range map[int]int{1: impl.OK, 28: impl.OK, 29: impl.OK, 30: impl.ErrBad} {
		n := query(item(field("id")), from("cases"), where(build(count)))
		want := ranged("cases", -1, keyOf(num(3)), behindOf(num(3)), 4*count)
		if code != impl.OK {
			want = impl.Plan{}
		}
		wantPlan(t, n, list, want, code)
		if code == impl.OK {
			wantPlaces(t, want, list, plannedData(), []int{2}, impl.OK)
		}
	}
	long := text(strings.Repeat("\x00", impl.MaxCell))
	n := query(item(field("word")), from("words"), where(pair(field("word"), "=", lit(long))))
	p, _ := impl.PlanSql(n, list)
	wantPlan(t, n, list, ranged("words", -1, "\x03"+strings.Repeat("\x00\xff", 60)+"\x00\x01", "\x03"+strings.Repeat("\x00\xff", 60)+"\x00\x01\xff", 4), impl.OK)
	wantPlaces(t, p, list, plannedData(), nil, impl.OK)
}

// CheckSql's codes come first; then what is no query.
func TestCodesOfPlans(t *testing.T) {
	list := plannedTables()
	for s, code := range map[string]int{
		"select none from cases": impl.ErrName, "select id from none": impl.ErrName, "select id from cases where none = 1": impl.ErrName, "select id from cases where id = 'a'": impl.ErrType, "select id from cases where 'a' = id": impl.ErrType, "select id from cases where id": impl.ErrType, "select id from cases where id = 1 and 1": impl.ErrType, "select id, count(*) from cases": impl.ErrCount, "select n from cases join notes on true": impl.ErrTwice, "select 1 from cases join cases on true": impl.ErrTwice, "select id from cases where notes.id = 1": impl.ErrName, "select id from cases as c where cases.id = 1": impl.ErrName,
		"delete from cases": impl.ErrBad, "delete from cases where id = 1": impl.ErrBad, "update cases set n = 1 where id = 1": impl.ErrBad, "insert into plain values (1, 2)": impl.ErrBad, "delete from none": impl.ErrName, "delete from cases where none = 1": impl.ErrName, "update cases set id = 1": impl.ErrGuard, "update cases set n = 'a'": impl.ErrType, "update cases set n = 1, n = 2": impl.ErrTwice, "insert into plain values (1)": impl.ErrCount, "insert into plain values ('a', 2)": impl.ErrType, "insert into plain values (id, 2)": impl.ErrName,
	} {
		wantPlanned(t, s, list, impl.Plan{}, code)
		wantPlanned(t, s, list[:0], impl.Plan{}, impl.ErrName)
		wantPlanned(t, s, nil, impl.Plan{}, impl.ErrName)
		wantPlanned(t, s, wrongCatalogs()[0], impl.Plan{}, impl.ErrBad)
		wantPlanned(t, s, manyTables(impl.MaxList), impl.Plan{}, impl.ErrBad)
		wantPlanned(t, s, manyTables(impl.MaxList+1), impl.Plan{}, impl.ErrLong)
	}
	for _, n := range []impl.Tree{{}, {Kind: least}, {Kind: greatest}, field("a"), where(lit(flag(1))), query(), query(from("cases")), query(item(field("id")), from("cases"), where(agg("count"))), query(item(field("id")), from("cases"), where(lit(num(least))))} {
		wantPlan(t, n, list, impl.Plan{}, impl.ErrBad)
		wantPlan(t, n, nil, impl.Plan{}, impl.ErrBad)
		wantPlan(t, n, make([]impl.Table, impl.MaxList+1), impl.Plan{}, impl.ErrLong)
	}
	for _, wrong := range wrongCatalogs() {
		wantPlan(t, sql(t, "select id from a where id = 1"), wrong, impl.Plan{}, impl.ErrBad)
	}
	a := []impl.Table{table("a", "id int", 1)}
	for _, name := range []string{strings.Repeat("a", impl.MaxText), strings.Repeat("a", impl.MaxText+1)} {
		wantPlan(t, query(item(field("id")), from(name)), a, impl.Plan{}, impl.ErrBad)
		wantPlan(t, query(item(field("id")), from("a"), where(pair(field("id"), "=", lit(text(name))))), a, impl.Plan{}, impl.ErrBad)
	}
	most := query(slices.Concat([]impl.Tree{item(field("id")), from("a")}, make([]impl.Tree, impl.MaxList+1))...)
	wantPlan(t, most, a, impl.Plan{}, impl.ErrBad)
}

// Rolled statements over rolled indexes are planned as the words say.
func TestRolledPlans(t *testing.T) {
	d := &dice{state: 420}
	count := map[string]int{}
	for i := range 6000 {
		list := rolledIndexed(d, plannedTables())
		if i%2 == 0 {
			list = rolledIndexed(d, typedTables())
		}
		n := rolledPlanned(d, list, []int{0, 0, 0, 30}[i%4])
		if i%50 == 0 {
			n = rolledSql(d, list, 0)
		}
		want, code := planByWords(n, list)
		wantPlan(t, n, list, want, code)
		words, told := planTextByWords(want, list)
		wantPlanText(t, want, list, words, told)
		count[impl.CodeWord(code)]++
		if code == impl.OK {
			count[fmt.Sprint("index ", want.Index, " ", want.Score > 0)]++
		}
		if t.Failed() {
			t.Fatal("and no more are planned")
		}
	}
	for _, kind := range []string{"ok", "bad", "name", "type", "index -1 false", "index -1 true", "index 0 true", "index 1 true", "index 2 true", "index 3 true"} {
		if count[kind] < 20 {
			t.Error("few of", kind, count)
		}
	}
}
