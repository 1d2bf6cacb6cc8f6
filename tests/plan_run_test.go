package tests

import (
	"fmt"
	"slices"
	"strings"
	"testing"

	"loop.example/g00208/impl"
)

// ran are queries with the rows that they answer by their plan, how many rows they look at, or a code.
type ran []struct {
	s, want      string
	looked, code int
}

// wantRan holds queries by their plan against what is told here, against the words, and against the queries without a plan.
func wantRan(t *testing.T, data []impl.Data, list ran) {
	t.Helper()
	tables := plannedTables()
	if !impl.DataOK(tables, data) {
		t.Fatal("the data are not right")
	}
	for _, c := range list {
		n := sql(t, c.s)
		words, looked, code := runByWords(n, tables, data)
		if !sameRows(words.Rows, lines(c.want)) || looked != c.looked || code != c.code {
			t.Errorf("%s: by the words %s, looked at %d, %s", c.s, shown(words.Rows), looked, impl.CodeWord(code))
		}
		wantRun(t, n, tables, data, impl.Answer{Fields: words.Fields, Rows: lines(c.want)}, c.looked, c.code)
		wantAnswer(t, n, tables, data, words, c.code)
		bare, count, told := impl.RunPlan(n, withoutIndexes(tables), data)
		wantRows(t, c.s+" without indexes", bare.Rows, told, words.Rows, c.code)
		if !slices.Equal(bare.Fields, words.Fields) || count < looked {
			t.Errorf("%s without indexes: %v, looked at %d", c.s, bare.Fields, count)
		}
	}
}

func TestQueriesByTheirPlan(t *testing.T) {
	wantRan(t, plannedData(), ran{
		{"select id from cases", "1; 2; 3; 4; 6; 9", 6, 0}, {"select id from cases where id = 3", "3", 1, 0}, {"select id from cases where 3 = id and n = 7", "3", 1, 0}, {"select id from cases where id = 3 and n = 6", "", 1, 0}, {"select id from cases where id = 5", "", 0, 0}, {"select id from cases where id > 2 and id <= 6", "3; 4; 6", 3, 0}, {"select id from cases where id > 6 and id < 2", "", 0, 0}, {"select id from cases where id = 1 and id = 2", "", 0, 0}, {"select id from cases where id = 1 or id = 2", "1; 2", 6, 0},
		{"select id from cases where status = 'open'", "1; 3; 9", 3, 0}, {"select id from cases where status = 'open' and id > 1", "3; 9", 3, 0}, {"select id from cases where status = 'open' and id = 9", "9", 1, 0}, {"select id from cases where status < 'open'", "2; 6", 2, 0}, {"select id from cases where status > 'open'", "4", 1, 0}, {"select id from cases where status >= 'open' and status <> 'open'", "4", 4, 0},
		{"select id from cases where n < 3", "4; 9", 3, 0}, {"select id from cases where 3 > n and status <> 'x'", "4; 9", 3, 0}, {"select id from cases where n >= 0 and n < 3", "4; 9", 2, 0}, {"select id from cases where n = null", "", 6, 0}, {"select id from cases where n is null", "2", 6, 0}, {"select id from cases where n < 3 and n is null", "", 3, 0}, {"select id from cases where n = 5 and null", "", 2, 0}, {"select id from cases where n <> 5", "3; 4; 9", 6, 0}, {"select id from cases where not n = 5", "3; 4; 9", 6, 0},
		{"select id from cases where flag = true", "1; 4", 2, 0}, {"select id from cases where flag < true", "3; 9", 4, 0}, {"select id from cases where flag", "1; 4", 6, 0}, {"select id from cases where mark <= x'00'", "1; 4", 4, 0}, {"select id from cases where mark > x'00'", "3; 6", 2, 0}, {"select id from cases where mark >= x''", "1; 3; 4; 6", 4, 0},
		{"select about, at from notes where about = 1", "1, 1; 1, 2", 2, 0}, {"select about, at from notes where about = 1 and at = 2", "1, 2", 2, 0}, {"select about, at from notes where at = 1", "1, 1; 4, 1", 2, 0}, {"select about from notes where n = 3", "1; 4", 4, 0}, {"select about from notes where what = 'c' and about >= 4", "4", 2, 0},
		{"select id from plain where id < 3", "-3; 0", 2, 0}, {"select id from plain where n = 1", "-3; 7", 4, 0}, {"select word from words where other = 'b'", "'a'; 'aa'", 2, 0}, {"select word from words where word >= 'a' and 'b' > word", "'a'; 'aa'", 2, 0},
	})
}

// The rows stand as they stand in the table, whichever index leads to them; groups, orders and limits are as without one.
func TestOrdersAndGroupsByPlans(t *testing.T) {
	wantRan(t, plannedData(), ran{
		{"select id, n from cases where n >= 0", "1, 5; 3, 7; 4, 2; 6, 5; 9, 0", 5, 0}, {"select id from cases where status >= ''", "1; 2; 3; 4; 6; 9", 6, 0}, {"select id from cases where n >= 0 order by n, id desc", "9; 4; 6; 1; 3", 5, 0}, {"select id from cases where n >= 0 order by flag", "6; 3; 9; 1; 4", 5, 0}, {"select id from cases where n >= 0 limit 2", "1; 3", 5, 0}, {"select id from cases where n = 5 order by id desc limit 1", "6", 2, 0}, {"select id from cases where id = 3 limit 0", "", 1, 0},
		{"select count(*), sum(n), min(id), max(status) from cases where n >= 0", "5, 19, 1, 'opener'", 5, 0}, {"select count(*), sum(n) from cases where id = 7", "0, null", 0, 0}, {"select status, count(*), sum(n) from cases where n >= 2 group by status", "'', 1, 5; 'open', 2, 12; 'opener', 1, 2", 4, 0}, {"select status from cases where id > 9 group by status", "", 0, 0}, {"select n, count(*) from cases where status = 'open' group by n order by count(*) desc, n desc", "7, 1; 5, 1; 0, 1", 3, 0}, {"select 7 from cases where id = 3 order by count(*)", "7", 1, 0}, {"select c.n + 1 as m from cases as c where c.status = 'open' order by m.n", "", 0, impl.ErrName}, {"select c.n + 1 as m from cases as c where c.status = 'open' order by c.n", "1; 6; 8", 3, 0},
	})
}

// Two tables are gone through whole; what is told is how many rows the first one has.
func TestTwoTablesByPlans(t *testing.T) {
	wantRan(t, plannedData(), ran{
		{"select id, what from cases join notes on id = about where id = 1", "1, 'a'; 1, 'b'", 6, 0}, {"select what from notes join cases on id = about where about = 4 and status = 'opener'", "'c'", 4, 0}, {"select a.id, b.id from cases as a join cases as b on a.n = b.n where a.id = 1", "1, 1; 1, 6", 6, 0}, {"select count(*) from plain join words on id = 3 where word = 'a'", "1", 4, 0}, {"select id from cases join notes on id = 1 and about / 0 = 1", "", 0, impl.ErrZero}, {"select id from cases join notes on false where id = 1 / 0", "", 6, 0}, {"select 1 / (id - 1) from cases join notes on true where id = 1", "", 0, impl.ErrZero},
	})
	data := plannedData()
	data[0].Rows = nil
	wantRan(t, data, ran{{"select id, what from cases join notes on true", "", 0, 0}, {"select id, what from notes join cases on true", "", 4, 0}, {"select count(*) from cases where id = 1", "0", 0, 0}})
	data[2].Rows, data[1].Rows = manyRows(101, 2), plannedData()[1].Rows
	wantRan(t, data, ran{{"select id from plain join notes on about = 1 where id = 1", "", 0, impl.ErrMany}, {"select id from plain where id = 100", "100", 1, 0}, {"select count(*) from plain where id >= 50", "51", 51, 0}})
}

// A fault is that of the query without a plan; a row that is passed over has none.
func TestFaultsByPlans(t *testing.T) {
	big := "999999999999999999"
	wantRan(t, plannedData(), ran{
		{"select 10 / n from cases where status = 'open'", "", 0, impl.ErrZero}, {"select 10 / n from cases where status = 'open' and id < 9", "2; 1", 3, 0}, {"select 10 / n from cases where id <= 4", "2; null; 1; 5", 4, 0}, {"select 10 / n from cases where n > 0", "2; 1; 5; 2", 4, 0}, {"select id from cases where n > 0 order by 10 / n", "3; 1; 6; 4", 4, 0}, {"select id from cases where n >= 0 order by 10 / n", "", 0, impl.ErrZero}, {"select sum(10 / n) from cases where n >= 0", "", 0, impl.ErrZero}, {"select sum(10 / n), count(10 % n) from cases where n >= 1", "10, 4", 4, 0}, {"select sum(n * " + big + ") from cases where n <= 5", "", 0, impl.ErrRange}, {"select n * " + big + " * 10 from cases where n = 5", "", 0, impl.ErrRange}, {"select -n, 1 / 0 from cases where id = 5", "", 0, 0}, {"select 1 / 0 from cases where id = 1", "", 0, impl.ErrZero}, {"select 1 / 0, count(*) from cases where id = 5", "", 0, impl.ErrZero}, {"select n * " + big + " * 10, 1 / 0 from cases where status = 'open'", "", 0, impl.ErrRange}, {"select 1 / 0, n * " + big + " * 10 from cases where status = 'open'", "", 0, impl.ErrZero},
		{"select id from cases where id = 1 and 10 / n = 2", "", 0, impl.ErrZero}, {"select id from cases where id = 1 and 10 / n = 0 and id < 9", "", 0, impl.ErrZero}, {"select id from cases where 10 / n > 0 and id = 1", "", 0, impl.ErrZero}, {"select id from cases where id = 1 and n * " + big + " * 10 > 0", "", 0, impl.ErrRange}, {"select id from cases where false and 1 / 0 = 1", "", 0, impl.ErrZero}, {"select id from cases where id = 1 and -n = -5", "1", 6, 0}, {"select id from cases where id = 0 + 1", "1", 6, 0}, {"select id from plain where id = -3", "-3", 4, 0}, {"select id from plain where id = 3 and 1 / id = 0", "", 0, impl.ErrZero}, {"select 1 / id from plain where id > 0", "0; 0", 2, 0}, {"select status, 10 / sum(n) from cases where n < 3 group by status", "", 0, impl.ErrZero}, {"select status, 10 / sum(n) from cases where n > 0 group by status", "'', 2; 'open', 0; 'opener', 5", 4, 0},
	})
}

// Numbers at the ends of all ints.
func TestGreatNumbersByPlans(t *testing.T) {
	data := plannedData()
	data[2].Rows = [][]impl.Value{{num(least), num(greatest)}, {num(-1), {}}, {num(0), num(least)}, {num(999999999999999999), num(1)}, {num(greatest), num(-1)}}
	big := "999999999999999999"
	wantRan(t, data, ran{
		{"select n from plain where id = " + big, "1", 1, 0}, {"select n from plain where id >= " + big, "1; -1", 2, 0}, {"select n from plain where id > " + big, "-1", 1, 0}, {"select sum(id) from plain where id >= " + big, "", 0, impl.ErrRange}, {"select sum(id) from plain where id > " + big + " and id <= " + big, "null", 0, 0}, {"select -n from plain where id = 0", "", 0, impl.ErrRange}, {"select count(*), count(n) from plain where id < 0", "2, 1", 2, 0}, {"select id / -1 from plain where id < 0", "", 0, impl.ErrRange}, {"select id % -1 from plain where id <= 0", "0; 0; 0", 3, 0},
	})
}

// PlanSql's codes come first, then data that are not right, then the query's.
func TestOrderOfCodesOfRuns(t *testing.T) {
	tables, right := plannedTables(), plannedData()
	wrong, short := plannedData(), plannedData()[:3]
	wrong[0].Rows[1][0] = num(1)
	wrongMany := plannedData()
	wrongMany[0].Rows = manyRows(impl.MaxRows+1, 5)
	long, longTables := make([]impl.Data, impl.MaxList+1), manyTables(impl.MaxList+1)
	check := func(n impl.Tree, list []impl.Table, data []impl.Data, code int) {
		t.Helper()
		if _, _, words := runByWords(n, list, data); words != code {
			t.Errorf("%.300s: the words tell %s, not %s", drawn(n), impl.CodeWord(words), impl.CodeWord(code))
		}
		wantRun(t, n, list, data, impl.Answer{}, 0, code)
	}
	for s, code := range map[string]int{
		"select none from cases": impl.ErrName, "select id from none where id = 1": impl.ErrName, "select id from cases where id = 'a'": impl.ErrType, "select id, count(*) from cases where id = 1": impl.ErrCount, "select 1 from cases join cases on true": impl.ErrTwice, "delete from none": impl.ErrName, "update cases set id = 1": impl.ErrGuard, "insert into plain values (1)": impl.ErrCount, "delete from cases": impl.ErrBad, "update cases set n = 1": impl.ErrBad, "insert into plain values (1, 1)": impl.ErrBad,
	} {
		for _, data := range [][]impl.Data{right, wrong, short, nil, long[:impl.MaxList]} {
			check(sql(t, s), tables, data, code)
		}
		check(sql(t, s), tables, long, impl.ErrLong)
	}
	for _, s := range []string{"select id from cases where id = 1", "select 1 / 0 from cases", "select id from cases where 1 / 0 = 1", "select id from plain where id = 1", "select a.id from cases as a join cases as b on 1 / 0 = 1", "select count(*) from cases"} {
		for _, data := range [][]impl.Data{wrong, short, nil, {}, right[1:], wrongMany, long[:impl.MaxList]} {
			check(sql(t, s), tables, data, impl.ErrBad)
		}
		for _, list := range [][]impl.Table{nil, tables, wrongCatalogs()[0], longTables} {
			check(sql(t, s), list, long, impl.ErrLong)
		}
		for _, data := range [][]impl.Data{nil, right, wrong, emptyData(longTables)} {
			check(sql(t, s), longTables, data, impl.ErrLong)
		}
		check(sql(t, s), manyTables(impl.MaxList), right, impl.ErrBad)
		check(sql(t, s), wrongCatalogs()[0], wrong, impl.ErrBad)
		check(sql(t, s), nil, nil, impl.ErrName)
	}
	for _, n := range []impl.Tree{{}, {Kind: least, N: greatest}, field("id"), query(), query(item(field("id")), from(strings.Repeat("c", impl.MaxText+1)))} {
		check(n, tables, right, impl.ErrBad)
		check(n, tables, long, impl.ErrLong)
		check(n, longTables, right, impl.ErrLong)
	}
}

// As many rows as a table may have, found by each way.
func TestManyRowsByPlans(t *testing.T) {
	list := []impl.Table{table("t", "a int, b int, c int null", 1, index("byb", 1), index("byc", 2, 1))}
	var rows [][]impl.Value
	for i := range impl.MaxRows {
		r := row(num(i), num(i%20), num(i/100))
		if i%7 == 0 {
			r[2] = impl.Value{}
		}
		rows = append(rows, r)
	}
	data := []impl.Data{{Name: "t", Rows: rows}}
	for s, looked := range map[string]int{
		"": 400, "where a = 399": 1, "where a >= 200": 200, "where a > 200 and a < 300": 99, "where b = 7": 20, "where b < 5": 100, "where b > 18": 20, "where c >= 0": 342, "where c < 0": 58, "where c = 0 and b = 3": 20, "where c = 0 and c >= 0 and b = 3": 85, "where c = 4": 0, "where a + 0 = 3": 400, "where a = 3 or b = 3": 400, "where c is null": 400,
	} {
		for _, e := range []string{"select a, b, c", "select b, count(*), sum(c)", "select sum(a), min(c)"} {
			by := ""
			if strings.HasPrefix(e, "select b") {
				by = " group by b order by b desc"
			}
			n := sql(t, fmt.Sprintf("%s from t %s%s", e, s, by))
			want, code := impl.Query(n, list, data)
			if code != impl.OK {
				t.Fatal(s, code)
			}
			wantRun(t, n, list, data, want, looked, impl.OK)
		}
	}
}
