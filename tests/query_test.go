package tests

import (
	"fmt"
	"math"
	"slices"
	"strings"
	"testing"

	"loop.example/g00208/impl"
)

// asks are queries with the rows that they answer, or with a code.
type asks []struct {
	s, want string
	code    int
}

// wantAsked holds queries against what is told here, and against the words.
func wantAsked(t *testing.T, data []impl.Data, list asks) {
	t.Helper()
	tables := askedTables()
	if !impl.DataOK(tables, data) {
		t.Fatal("the data are not right")
	}
	for _, c := range list {
		n := sql(t, c.s)
		words, code := queryByWords(n, tables, data)
		if !sameRows(words.Rows, lines(c.want)) || code != c.code {
			t.Errorf("%s: by the words %s %s", c.s, shown(words.Rows), impl.CodeWord(code))
		}
		wantAnswer(t, n, tables, data, impl.Answer{Fields: words.Fields, Rows: lines(c.want)}, c.code)
	}
}

func TestQueriesOfOneTable(t *testing.T) {
	wantAsked(t, askedData(), asks{
		{"select id from cases", "1; 2; 3; 4; 6", 0}, {"select n, id from cases", "5, 1; 0, 2; 7, 3; 2, 4; null, 6", 0}, {"select id, id, 1 from cases", "1, 1, 1; 2, 2, 1; 3, 3, 1; 4, 4, 1; 6, 6, 1", 0}, {"select c.id from cases as c", "1; 2; 3; 4; 6", 0}, {"select cases.id from cases", "1; 2; 3; 4; 6", 0},
		{"select id, n from cases where status = 'open'", "1, 5; 4, 2; 6, null", 0}, {"select id from cases where not status = 'open'", "2", 0}, {"select id from cases where status is null", "3", 0}, {"select id from cases where status = null", "", 0}, {"select id from cases where null", "", 0}, {"select id from cases where true", "1; 2; 3; 4; 6", 0}, {"select id from cases where false", "", 0}, {"select id from cases where n > 1 and status <> 'done'", "1; 4", 0}, {"select id from cases where n > 6 or status = 'done'", "2; 3", 0}, {"select n + 1, n is null, -n from cases where id > 2", "8, false, -7; 3, false, -2; null, true, null", 0},
		{"select 7 from cases", "7; 7; 7; 7; 7", 0}, {"select x from one", "", 0}, {"select 7 from one", "", 0}, {"select 7 from one where true order by x limit 3", "", 0}, {"select about, at from notes where what >= 'b'", "1, 2; 4, 1; 5, 0", 0}, {"select id from cases where 0 = 1 / id", "2; 3; 4; 6", 0},
	})
}

func TestOrdersAndLimits(t *testing.T) {
	wantAsked(t, askedData(), asks{
		{"select id from cases order by id", "1; 2; 3; 4; 6", 0}, {"select id from cases order by id desc", "6; 4; 3; 2; 1", 0}, {"select id from cases order by n", "6; 2; 4; 1; 3", 0}, {"select id from cases order by n desc", "3; 1; 4; 2; 6", 0}, {"select id from cases order by status", "3; 2; 1; 4; 6", 0}, {"select id from cases order by status desc", "1; 4; 6; 2; 3", 0}, {"select id from cases order by status, n", "3; 2; 6; 4; 1", 0}, {"select id from cases order by status desc, n desc", "1; 4; 6; 2; 3", 0}, {"select id from cases order by status desc, id desc", "6; 4; 1; 2; 3", 0}, {"select id from cases order by status, id desc", "3; 2; 6; 4; 1", 0}, {"select id from cases order by 1", "1; 2; 3; 4; 6", 0}, {"select id from cases order by 1 desc, 'a'", "1; 2; 3; 4; 6", 0}, {"select id from cases order by null, id desc", "6; 4; 3; 2; 1", 0}, {"select id from cases order by id % 2, id", "2; 4; 6; 1; 3", 0}, {"select id from cases order by id = 3 desc, -id", "3; 6; 4; 2; 1", 0}, {"select id as n from cases order by n limit 1", "6", 0}, {"select n from cases where status = 'open' order by id desc", "null; 2; 5", 0},
		{"select id from cases limit 0", "", 0}, {"select id from cases limit 1", "1", 0}, {"select id from cases limit 4", "1; 2; 3; 4", 0}, {"select id from cases limit 5", "1; 2; 3; 4; 6", 0}, {"select id from cases limit 6", "1; 2; 3; 4; 6", 0}, {"select id from cases limit 999999999999999999", "1; 2; 3; 4; 6", 0}, {"select id from cases order by n desc limit 2", "3; 1", 0}, {"select id from cases order by n desc limit 0", "", 0}, {"select id from cases where n > 3 limit 1", "1", 0}, {"select x from one limit 0", "", 0}, {"select x from one limit 2", "", 0}, {"select status from cases group by status limit 2", "null; 'done'", 0}, {"select count(*) from cases limit 0", "", 0}, {"select count(*) from cases limit 1", "5", 0}, {"select status from cases group by status order by status desc limit 2", "'open'; 'done'", 0},
	})
}

func TestQueriesOfTwoTables(t *testing.T) {
	wantAsked(t, askedData(), asks{
		{"select id, at from cases join notes on true where id < 3", "1, 1; 1, 2; 1, 1; 1, 0; 2, 1; 2, 2; 2, 1; 2, 0", 0}, {"select id, what from cases join notes on id = about", "1, 'a'; 1, 'b'; 4, 'c'", 0}, {"select what, id from notes join cases on about = id", "'a', 1; 'b', 1; 'c', 4", 0}, {"select id, what from cases join notes on id > about where n > 1", "3, 'a'; 3, 'b'; 4, 'a'; 4, 'b'", 0}, {"select id, what from cases join notes on false", "", 0}, {"select id, what from cases join notes on null", "", 0}, {"select id from cases join one on true", "", 0}, {"select x from one join cases on true", "", 0}, {"select a.x from one as a join one as b on true", "", 0},
		{"select a.id, b.id from cases as a join cases as b on a.id = b.n", "2, 4", 0}, {"select a.id, b.id from cases as a join cases as b on a.status = b.status and a.id < b.id", "1, 4; 1, 6; 4, 6", 0}, {"select cases.id, b.id from cases join cases as b on cases.id + 1 = b.id order by b.id desc", "3, 4; 2, 3; 1, 2", 0}, {"select id, at from cases join notes on id = about order by at, id desc", "4, 1; 1, 1; 1, 2", 0}, {"select id, at from cases join notes on id = about order by at desc limit 1", "1, 2", 0}, {"select id, what from cases join notes on id = about where what = 'c' or at = 2", "1, 'b'; 4, 'c'", 0},
		{"select count(*), sum(n), max(what) from cases join notes on id = about", "3, 12, 'c'", 0}, {"select about, count(*), min(n) from cases join notes on id >= about group by about", "1, 10, 0; 4, 2, 2; 5, 1, null", 0},
		{"select status, about from cases join notes on id <= about group by about, status", "'open', 1; null, 4; 'done', 4; 'open', 4; null, 5; 'done', 5; 'open', 5", 0}, {"select a.status, count(b.n) from cases as a join cases as b on a.id <> b.id group by a.status order by count(b.n) desc, a.status", "'open', 10; null, 3; 'done', 3", 0},
	})
}

func TestQueriesOfGroups(t *testing.T) {
	wantAsked(t, askedData(), asks{
		{"select count(*) from cases", "5", 0}, {"select count(n), count(status), count(null), count(1) from cases", "4, 4, 0, 5", 0}, {"select sum(n), min(n), max(n), min(status), max(status) from cases", "14, 0, 7, 'done', 'open'", 0}, {"select sum(n) + count(*) * 2, max(id) - min(id) from cases", "24, 5", 0}, {"select sum(n * 2 + id) from cases where n is not null", "38", 0}, {"select 1 from cases order by count(*)", "1", 0}, {"select 1, 'a' from cases order by sum(n) desc, 1", "1, 'a'", 0}, {"select max(n) > 6 and count(*) = 5 from cases", "true", 0}, {"select min(n = 5), max(n = 5), count(n = 5) from cases", "false, true, 4", 0}, {"select sum(null), min(null), max(null) from cases", "null, null, null", 0}, {"select count(*) from cases where status = 'open'", "3", 0},
		{"select status, count(*) from cases group by status", "null, 1; 'done', 1; 'open', 3", 0}, {"select status, count(*), sum(n) + 1 from cases group by status", "null, 1, 8; 'done', 1, 1; 'open', 3, 8", 0}, {"select count(*) from cases group by status", "1; 1; 3", 0}, {"select status from cases group by status", "null; 'done'; 'open'", 0}, {"select 7 from cases group by status", "7; 7; 7", 0}, {"select status from cases group by status order by status desc", "'open'; 'done'; null", 0}, {"select status, max(id) from cases group by status order by max(id)", "'done', 2; null, 3; 'open', 6", 0}, {"select status from cases group by status order by count(*) desc, status", "'open'; null; 'done'", 0}, {"select id % 2 = 0, status from cases group by id, status", "false, 'open'; true, 'done'; false, null; true, 'open'; true, 'open'", 0}, {"select status, id from cases group by status, id", "null, 3; 'done', 2; 'open', 1; 'open', 4; 'open', 6", 0}, {"select id, status from cases group by id, status, id", "1, 'open'; 2, 'done'; 3, null; 4, 'open'; 6, 'open'", 0}, {"select cases.status from cases group by status", "null; 'done'; 'open'", 0}, {"select status from cases where id > 2 group by cases.status", "null; 'open'", 0}, {"select about, count(*), max(what) from notes group by about", "1, 2, 'b'; 4, 1, 'c'; 5, 1, 'd'", 0}, {"select at, min(about), max(about) from notes group by at order by at desc", "2, 1, 1; 1, 1, 4; 0, 5, 5", 0}, {"select status is null, sum(n) from cases group by status", "true, 7; false, 0; false, 7", 0},
	})
}

// Without group by nothing is one group; with it there is none.
func TestGroupsOfNoRows(t *testing.T) {
	for _, source := range []string{"one", "one where x > 3", "one where false", "one where null"} {
		data := askedData()
		if strings.Contains(source, "where") {
			data[2].Rows = lines("1; 2; 3")
		}
		wantAsked(t, data, asks{
			{"select count(*) from " + source, "0", 0}, {"select count(*), count(x), sum(x), min(x), max(x) from " + source, "0, 0, null, null, null", 0}, {"select sum(x) + 1, sum(x) is null, count(*) = 0 from " + source, "null, true, true", 0}, {"select 7, 'a', null from " + source + " order by count(*)", "7, 'a', null", 0}, {"select 7, max(x) from " + source + " order by min(x) desc, 3 limit 1", "7, null", 0}, {"select count(*) from " + source + " limit 0", "", 0}, {"select sum(1 / 0), count(1 / 0) from " + source, "null, 0", 0},
			{"select 1 / 0, count(*) from " + source, "", impl.ErrZero}, {"select count(*) / count(x) from " + source, "", impl.ErrZero}, {"select count(*) from " + source + " order by 1 / count(*)", "", impl.ErrZero}, {"select 7 % 0 from " + source + " order by count(*) limit 0", "", impl.ErrZero},
			{"select x, count(*) from " + source + " group by x", "", 0}, {"select 7 from " + source + " group by x", "", 0}, {"select count(*) from " + source + " group by x order by count(*) limit 5", "", 0}, {"select 1 / 0 from " + source + " group by x", "", 0}, {"select 1 / 0 from " + source, "", 0}, {"select 7 from " + source + " order by 1 / 0", "", 0}, {"select x from " + source, "", 0},
		})
	}
	wantAsked(t, askedData(), asks{
		{"select count(*), max(id), sum(x) from cases join one on true", "0, null, null", 0}, {"select count(*), max(id), sum(about) from cases join notes on false", "0, null, null", 0}, {"select id, count(*) from cases join one on true group by id", "", 0},
	})
}

// The first fault counts: that of `on` over all rows, then that of `where`, then row by row items and orders.
func TestFaultsOfQueries(t *testing.T) {
	big := "999999999999999999"
	wantAsked(t, askedData(), asks{
		{"select 10 / n from cases", "", impl.ErrZero}, {"select 10 / n from cases where n > 0 order by id desc", "5; 1; 2", 0}, {"select id from cases where 10 / n > 0", "", impl.ErrZero}, {"select id from cases where n > 0 and 10 / n > 0", "", impl.ErrZero}, {"select id from cases order by 10 / n", "", impl.ErrZero}, {"select id from cases order by 10 / n limit 0", "", impl.ErrZero}, {"select 10 / n from cases limit 1", "", impl.ErrZero}, {"select id from cases where n is null order by 10 / n", "6", 0},
		{"select n * " + big + " * 10, 1 / n from cases", "", impl.ErrRange}, {"select 1 / (n - 5), n * " + big + " * 10 from cases", "", impl.ErrZero}, {"select 1 / n, n * " + big + " * 10 from cases", "", impl.ErrRange}, {"select 1 / n from cases order by n * " + big + " * 10", "", impl.ErrRange}, {"select n * " + big + " * 10 from cases order by 1 / (n - 5)", "", impl.ErrRange}, {"select 1 / n from cases where id > 1 order by n * " + big + " * 10", "", impl.ErrZero}, {"select 1 from cases order by 1 / n, n * " + big + " * 10", "", impl.ErrRange}, {"select 1 from cases where id > 1 order by 1 / n, n * " + big + " * 10", "", impl.ErrZero},
		{"select 1 / 0 from cases where n * " + big + " * 10 > 0", "", impl.ErrRange}, {"select id from cases join notes on 1 / (id - 6) = 0 where n * " + big + " * 10 > 0", "", impl.ErrZero}, {"select id from cases join notes on id > 3 where 1 / (id - 1) = 0", "4; 4; 4; 4; 6; 6; 6; 6", 0}, {"select id from cases join notes on id * " + big + " * 10 > 0 where 1 / 0 = 0", "", impl.ErrRange}, {"select 1 / (about - 4) from notes join one on true", "", 0}, {"select id from cases join one on 1 / 0 = 0", "", 0}, {"select id from cases where 1 / 0 = 0 and false", "", impl.ErrZero},
		{"select sum(10 / n) from cases", "", impl.ErrZero}, {"select count(10 / n) from cases", "", impl.ErrZero}, {"select sum(n * " + big + ") from cases", "", impl.ErrRange}, {"select sum(n * " + big + " * 10), 1 / 0 from cases", "", impl.ErrRange}, {"select 1 / 0 + sum(n * " + big + " * 10) from cases", "", impl.ErrZero}, {"select sum(n * " + big + " * 10) + 1 / 0 from cases", "", impl.ErrRange}, {"select max(id), 1 / (count(*) - 5) from cases", "", impl.ErrZero}, {"select status, 1 / (count(*) - 3) from cases group by status", "", impl.ErrZero}, {"select 1 / (count(*) - 3), sum(n * " + big + " * 2) from cases group by status", "", impl.ErrRange}, {"select 1 / (count(*) - 1), sum(n * " + big + " * 2) from cases group by status", "", impl.ErrZero}, {"select 1 / (count(*) - 3), count(*) from cases group by status order by sum(n * " + big + " * 2)", "", impl.ErrRange}, {"select sum(n + 1 / (n - 2)) from cases where id > 3", "", impl.ErrZero}, {"select max(1 / n), max(n * " + big + " * 10) from cases where id > 1", "", impl.ErrZero}, {"select max(n * " + big + " * 10), max(1 / n) from cases where id > 1", "", impl.ErrRange},
	})
}

// Numbers at the ends of all ints; a sum goes out of range by the order of its rows.
func TestQueriesOfGreatNumbers(t *testing.T) {
	data := askedData()
	data[0].Rows = [][]impl.Value{{num(math.MinInt), {}, num(math.MaxInt)}, {num(-1), {}, num(1)}, {num(0), text("a"), num(-1)}, {num(math.MaxInt), text("a"), num(math.MinInt)}}
	tables := askedTables()
	for _, c := range []struct {
		s    string
		want [][]impl.Value
		code int
	}{
		{"select max(id), min(id), max(n), min(n) from cases", [][]impl.Value{{num(math.MaxInt), num(math.MinInt), num(math.MaxInt), num(math.MinInt)}}, 0},
		{"select sum(id) from cases", nil, impl.ErrRange}, {"select sum(id) from cases where id <> -1", lines("-1"), 0}, {"select sum(n) from cases", nil, impl.ErrRange}, {"select sum(n) from cases where id <> -1", lines("-2"), 0}, {"select sum(n), status from cases group by status", nil, impl.ErrRange}, {"select -id from cases", nil, impl.ErrRange}, {"select -id from cases where n < 0", [][]impl.Value{{num(0)}, {num(-math.MaxInt)}}, 0}, {"select id % -1 from cases", lines("0; 0; 0; 0"), 0}, {"select id / -1 from cases", nil, impl.ErrRange},
		{"select id from cases order by n", [][]impl.Value{{num(math.MaxInt)}, {num(0)}, {num(-1)}, {num(math.MinInt)}}, 0}, {"select n from cases order by id desc limit 2", [][]impl.Value{{num(math.MinInt)}, {num(-1)}}, 0}, {"select status, max(id) + min(id) from cases group by status", nil, impl.ErrRange}, {"select status, max(id) + min(id) from cases where status = 'a' group by status", [][]impl.Value{{text("a"), num(math.MaxInt)}}, 0},
	} {
		n := sql(t, c.s)
		told, _, _ := checkedByWords(n, tables)
		if c.code != impl.OK {
			told = nil
		}
		wantAnswer(t, n, tables, data, impl.Answer{Fields: told, Rows: c.want}, c.code)
	}
}

func TestFieldsOfQueries(t *testing.T) {
	for s, want := range map[string]string{
		"select id, n as m, status from cases": "id int, m int, status text", "select c.id from cases as c": "id int", "select id as id, what as x from cases join notes on true": "id int, x text", "select id from cases where false": "id int", "select status as s from cases where false group by status": "s text", "select max(status) as top from cases limit 0": "top text",
	} {
		got, code := impl.Query(sql(t, s), askedTables(), askedData())
		if code != impl.OK || !slices.Equal(got.Fields, fields(want)) {
			t.Errorf("%s: fields %v %d", s, got.Fields, code)
		}
	}
	got, code := impl.Query(sql(t, "select 1, null, n + 1, count(*) as n from cases group by n"), askedTables(), askedData())
	if want := []impl.Field{{Type: impl.VaInt}, {}, {Type: impl.VaInt}, {Name: "n", Type: impl.VaInt}}; code != impl.OK || !slices.Equal(got.Fields, want) {
		t.Error(got.Fields, code)
	}
}

// CheckSql's codes come first, then what is no query and data that are not right, then too many rows, then the faults of values.
func TestOrderOfCodesOfQueries(t *testing.T) {
	tables, right := askedTables(), askedData()
	wrong, short := askedData(), askedData()[:2]
	wrong[0].Rows[1][0] = num(1)
	many := askedData()
	many[0].Rows, many[2].Rows = manyRows(21, 3), manyRows(20, 1)
	wrongMany := askedData()
	wrongMany[0].Rows, wrongMany[2].Rows = manyRows(401, 3), manyRows(20, 1)
	for _, c := range []struct {
		s    string
		data []impl.Data
		code int
	}{
		{"select none from cases", right, impl.ErrName}, {"select none from cases", wrong, impl.ErrName}, {"select none from cases", short, impl.ErrName}, {"select id from nil", wrong, impl.ErrName}, {"select id + 'a' from cases", wrong, impl.ErrType}, {"select id, count(*) from cases", wrong, impl.ErrCount}, {"select a.id from cases as a join cases as a on true", wrong, impl.ErrTwice}, {"select id from cases where n", right, impl.ErrType}, {"select id from cases join notes on n", wrong, impl.ErrType}, {"select 1 / 0 from cases where 'a'", right, impl.ErrType}, {"select none from cases join one on true", many, impl.ErrName},
		{"select id from cases", wrong, impl.ErrBad}, {"select id from cases", short, impl.ErrBad}, {"select id from cases", nil, impl.ErrBad}, {"select x from one", wrong, impl.ErrBad}, {"select 1 / 0 from cases", wrong, impl.ErrBad}, {"select id from cases join one on true", wrongMany, impl.ErrBad}, {"select x from one", wrongMany, impl.ErrBad},
		{"delete from cases", right, impl.ErrBad}, {"delete from cases", wrong, impl.ErrBad}, {"delete from nil", right, impl.ErrName}, {"delete from cases where n", right, impl.ErrType}, {"insert into one values (1)", right, impl.ErrBad}, {"insert into one values (1, 2)", right, impl.ErrCount}, {"insert into one values (1 / 0)", right, impl.ErrBad}, {"update cases set n = 1", right, impl.ErrBad}, {"update cases set id = 1", right, impl.ErrGuard}, {"update cases set n = 1 / 0 where 1 / 0 = 1", wrong, impl.ErrBad},
		{"select id from cases join one on true", many, impl.ErrMany}, {"select 1 / 0 from cases join one on 1 / 0 = 0 where 1 / 0 = 0", many, impl.ErrMany}, {"select id from cases join one on false limit 0", many, impl.ErrMany}, {"select count(*) from one join cases on false", many, impl.ErrMany}, {"select a.x from one as a join one as b on a.x = 0 and b.x = 0", many, impl.OK}, {"select 1 / 0 from one as a join one as b on true", many, impl.ErrZero},
	} {
		n := sql(t, c.s)
		words, code := queryByWords(n, tables, c.data)
		if code != c.code {
			t.Error(c.s, "by the words", impl.CodeWord(code))
		}
		wantAnswer(t, n, tables, c.data, words, c.code)
		wantAnswer(t, n, tables, make([]impl.Data, impl.MaxList+1), impl.Answer{}, impl.ErrLong)
		wantAnswer(t, n, manyTables(impl.MaxList+1), c.data, impl.Answer{}, impl.ErrLong)
		wantAnswer(t, n, manyTables(impl.MaxTables+1), c.data, impl.Answer{}, impl.ErrBad)
	}
	wantAnswer(t, sql(t, "select id from cases"), tables, make([]impl.Data, impl.MaxList), impl.Answer{}, impl.ErrBad)
	wantAnswer(t, sql(t, "select none from cases"), tables, make([]impl.Data, impl.MaxList), impl.Answer{}, impl.ErrName)
	for _, n := range append(wrongTrees(), impl.Tree{}, item(field("id")), impl.Tree{Kind: math.MinInt}, impl.Tree{Kind: math.MaxInt}) {
		wantAnswer(t, n, tables, right, impl.Answer{}, impl.ErrBad)
		wantAnswer(t, n, tables, make([]impl.Data, impl.MaxList+1), impl.Answer{}, impl.ErrLong)
	}
}

// Products of MaxRows rows, and of one more or fewer.
func TestHowManyRowsAQueryTakes(t *testing.T) {
	tables := []impl.Table{table("a", "x int", 1), table("b", "x int", 1)}
	for _, c := range []struct{ a, b, code int }{
		{20, 20, impl.OK}, {400, 1, impl.OK}, {1, 400, impl.OK}, {400, 0, impl.OK}, {0, 400, impl.OK}, {21, 20, impl.ErrMany}, {20, 21, impl.ErrMany}, {400, 2, impl.ErrMany}, {201, 2, impl.ErrMany}, {400, 400, impl.ErrMany}, {399, 1, impl.OK},
		{401, 0, impl.ErrBad}, {0, 401, impl.ErrBad}, {1, impl.MaxList + 1, impl.ErrBad},
	} {
		data := []impl.Data{{Name: "a", Rows: manyRows(c.a, 1)}, {Name: "b", Rows: manyRows(c.b, 1)}}
		for s, count := range map[string]int{"select a.x, b.x from a join b on true": c.a * c.b, "select a.x, b.x from a join b on a.x = b.x": min(c.a, c.b), "select b.x, a.x from a join b on true limit 3": min(3, c.a*c.b), "select count(*), count(*) from a join b on true": 1} {
			n := sql(t, s)
			words, code := queryByWords(n, tables, data)
			if code != c.code || code == impl.OK && len(words.Rows) != count {
				t.Errorf("%s of %d and %d rows: the words tell %d, %d rows", s, c.a, c.b, code, len(words.Rows))
			}
			wantAnswer(t, n, tables, data, words, c.code)
		}
	}
	data := []impl.Data{{Name: "a", Rows: manyRows(400, 1)}, {Name: "b", Rows: manyRows(400, 1)}}
	wantAnswer(t, sql(t, "select x from b"), tables, data, impl.Answer{Fields: fields("x int"), Rows: manyRows(400, 1)}, impl.OK)
	wantAnswer(t, sql(t, "select x from b where x % 2 = 0 group by x order by -x limit 2"), tables, data, impl.Answer{Fields: fields("x int"), Rows: lines("398; 396")}, impl.OK)
}

// Two tables of MaxCells columns; as many items and as many orders as a statement can hold.
func TestWideQueries(t *testing.T) {
	wide := []impl.Table{tableOf("wide", manyColumns(impl.MaxCells, 1), 1)}
	d := &dice{state: 320}
	data := rolledData(d, wide, 6)
	for len(data[0].Rows) < 2 {
		data = rolledData(d, wide, 6)
	}
	var parts []impl.Tree
	for _, of := range []string{"a", "b"} {
		for _, c := range wide[0].Columns {
			parts = append(parts, item(field(of+"."+c.Name)))
		}
	}
	n := query(slices.Concat(parts, []impl.Tree{fromAs("wide", "a"), fromAs("wide", "b"), joinOn(lit(flag(1)))})...)
	words, code := queryByWords(n, wide, data)
	if code != impl.OK || len(words.Rows) != len(data[0].Rows)*len(data[0].Rows) || len(words.Rows[0]) != 16 {
		t.Fatal("the words tell", words, code)
	}
	wantAnswer(t, n, wide, data, words, impl.OK)
	tables, rows := askedTables(), askedData()
	for count, code := range map[int]int{17: impl.OK, 40: impl.OK, 59: impl.OK, 60: impl.ErrBad} {
		n := query(append(slices.Repeat([]impl.Tree{item(field("id"))}, count), from("cases"))...)
		words, wanted := queryByWords(n, tables, rows)
		if wanted != code || code == impl.OK && len(words.Rows[0]) != count {
			t.Error("the words tell", wanted, "of", count, "items")
		}
		wantAnswer(t, n, tables, rows, words, code)
		n = query(slices.Concat([]impl.Tree{item(field("id")), from("cases")}, slices.Repeat([]impl.Tree{rising(field("status"))}, count-2), []impl.Tree{falling(field("n"))})...)
		words, wanted = queryByWords(n, tables, rows)
		if wanted != code || code == impl.OK && !sameRows(words.Rows, lines("3; 2; 1; 4; 6")) {
			t.Error("the words tell", wanted, "of", count, "orders")
		}
		wantAnswer(t, n, tables, rows, words, code)
	}
}

func TestAnswerTexts(t *testing.T) {
	for _, c := range []struct {
		rows [][]impl.Value
		want string
	}{
		{nil, ""}, {[][]impl.Value{}, ""}, {lines("1"), "(1)\n"}, {lines("1, 'it''s'; null, x'00ff'; true, false"), "(1, 'it''s')\n(null, x'00ff')\n(true, false)\n"}, {[][]impl.Value{nil, {}}, "()\n()\n"}, {[][]impl.Value{{num(math.MinInt), num(math.MaxInt)}}, "(-9223372036854775808, 9223372036854775807)\n"}, {[][]impl.Value{{text("a\nb"), text(", ")}, {text("")}}, "('a\nb', ', ')\n('')\n"}, {lines("1, 2, 3, 4, 5, 6, 7, 8, 9"), "(1, 2, 3, 4, 5, 6, 7, 8, 9)\n"},
	} {
		for _, told := range [][]impl.Field{nil, {}, fields("a int"), {{Type: -1, Name: "9"}}, make([]impl.Field, impl.MaxList+1)} {
			if s, code := impl.AnswerText(impl.Answer{Fields: told, Rows: c.rows}); s != c.want || code != impl.OK {
				t.Errorf("AnswerText %s: %q %d", shown(c.rows), s, code)
			}
		}
	}
	for _, r := range mixedRows(200) {
		want, _ := impl.RowText(r)
		if s, code := impl.AnswerText(impl.Answer{Rows: [][]impl.Value{r, r}}); s != want+"\n"+want+"\n" || code != impl.OK {
			t.Errorf("AnswerText of %v: %q %d", r, s, code)
		}
	}
}

func TestAnswersThatAreNotRight(t *testing.T) {
	want := func(what string, rows [][]impl.Value, wanted int) {
		t.Helper()
		s, code := impl.AnswerText(impl.Answer{Rows: rows})
		words, told := answerByWords(impl.Answer{Rows: rows})
		if code != wanted || told != wanted || s != words {
			t.Errorf("%s: %s, %d bytes, want %s, %d", what, impl.CodeWord(code), len(s), impl.CodeWord(wanted), len(words))
		}
	}
	for count, code := range map[int]int{1: impl.OK, 399: impl.OK, 400: impl.OK, 401: impl.ErrBad, impl.MaxList: impl.ErrBad, impl.MaxList + 1: impl.ErrBad, 100000: impl.ErrBad} {
		want(fmt.Sprint(count, " rows"), manyRows(count, 2), code)
		want(fmt.Sprint(count, " empty rows"), make([][]impl.Value, count), code)
	}
	for values, code := range map[int]int{0: impl.OK, 8: impl.OK, 9: impl.OK, 16: impl.OK, 17: impl.OK, 119: impl.OK, 120: impl.OK, 121: impl.ErrBad, impl.MaxList: impl.ErrBad, impl.MaxList + 1: impl.ErrBad} {
		want(fmt.Sprint(values, " values"), manyRows(2, values), code)
		want(fmt.Sprint(values, " values behind others"), append(lines("1; 2"), make([]impl.Value, values)), code)
	}
	for _, v := range wrongValues() {
		want("a wrong value", [][]impl.Value{{v}}, impl.ErrBad)
		want("a wrong value", append(lines("1; 2"), row(num(1), v, num(2))), impl.ErrBad)
	}
	long := slices.Repeat(row(text(strings.Repeat("'", impl.MaxCell))), impl.MaxTree)
	want("the longest rows", slices.Repeat([][]impl.Value{long}, 40), impl.OK)
}
