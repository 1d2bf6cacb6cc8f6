package tests

import (
	"fmt"
	"slices"
	"testing"

	"loop.example/g00208/impl"
)

// told is a statement with what CheckSql is to tell of it.
type told struct {
	s             string
	wanted, place int
}

func wantAllTold(t *testing.T, list []told) {
	t.Helper()
	for _, c := range list {
		n := sql(t, c.s)
		got, code, at := impl.CheckSql(n, typedTables())
		wantTold(t, c.s, code, at, c.wanted, c.place, len(got) == 0)
		if n.Kind != impl.NdSelect && len(got) != 0 {
			t.Errorf("%s has fields %v", c.s, got)
		}
	}
}

func TestQueriesThatAreRight(t *testing.T) {
	for _, s := range []string{
		"select id, status from cases where flag", "select 1 from cases", "select null from cases", "select cases.id from cases", "select c.id from cases as c", "select id from id", "select id.id from id where cases", "select cases.cases from id as cases",
		"select c.id from cases as c join notes as n on c.id = n.id where c.flag and n.flag", "select status, what from cases join notes on true", "select cases.id, notes.id from cases join notes on cases.id = notes.id", "select a.id from cases as a join cases as b on a.id = b.id where a.n < b.n",
		"select id from cases where null", "select id from cases join one on null", "select id from cases where not null and flag", "select id from cases where id = null", "select id from cases where mark is not null", "select id from cases where mark = x'00' or status = 'a'",
		"select id from cases order by id, status desc, n + 1", "select id from cases order by null", "select id from cases limit 3", "select id as a, id as a, id from cases order by id",
		"select count(*) from cases", "select sum(id) + 1 from cases", "select max(status), min(flag), count(mark) from cases where id > 1", "select 1 from cases order by count(*)", "select count(*) from cases order by sum(id), 1, null", "select 1, 'a' from cases group by id",
		"select status from cases group by status", "select status, status, count(*) from cases group by status", "select id, status from cases group by status, id", "select id + 1, sum(n) * id from cases group by id", "select 1 from cases group by id order by id desc, count(*)", "select sum(n) from cases group by id, id, status", "select cases.id from cases group by id", "select id from cases group by cases.id", "select id from cases as c group by c.id order by c.id + max(n)", "select cases.id, what, notes.n from cases join notes on true group by what, cases.id, notes.n",
	} {
		wantAllTold(t, []told{{s, impl.OK, 0}})
	}
}

func TestNamesInQueries(t *testing.T) {
	wantAllTold(t, []told{
		{"select none from cases", impl.ErrName, 2}, {"select what from cases", impl.ErrName, 2}, {"select cases.what from cases", impl.ErrName, 2}, {"select notes.id from cases", impl.ErrName, 2}, {"select cases.id from cases as c", impl.ErrName, 2}, {"select cases.id from cases as c join notes as cases on true", impl.OK, 0}, {"select c.what from cases as c join notes as n on true", impl.ErrName, 2}, {"select cases from cases", impl.ErrName, 2},
		{"select id from cases join notes on true", impl.ErrTwice, 2}, {"select flag from cases join notes on true", impl.ErrTwice, 2}, {"select status from cases join notes on true", impl.OK, 0}, {"select status from cases as a join cases as b on true", impl.ErrTwice, 2}, {"select id, x from cases join one on true", impl.OK, 0},
		{"select 1, 2 + none from cases", impl.ErrName, 6}, {"select sum(none) from cases", impl.ErrName, 3}, {"select x from one join notes on none", impl.ErrName, 6}, {"select x from one join notes on flag and n = 'a' and x = id", impl.OK, 0}, {"select x from one join cases as o on id = one.none", impl.ErrName, 8}, {"select id from cases where none", impl.ErrName, 5}, {"select id from cases where none.flag", impl.ErrName, 5}, {"select cases.id from cases join notes on true where flag", impl.ErrTwice, 8},
		{"select 1 from cases group by none", impl.ErrName, 5}, {"select 1 from cases group by id, status, none", impl.ErrName, 7}, {"select 1 from cases join notes on true group by what, id", impl.ErrTwice, 9}, {"select 1 from cases group by notes.id", impl.ErrName, 5}, {"select id as a from cases group by id order by a", impl.ErrName, 7}, {"select id as a from cases order by a", impl.ErrName, 5}, {"select id from cases order by id, none", impl.ErrName, 7}, {"select id as none from cases where none", impl.ErrName, 5}, {"select 1 from cases as c where cases.flag", impl.ErrName, 5},
	})
}

func TestTypesInQueries(t *testing.T) {
	wantAllTold(t, []told{
		{"select id + status from cases", impl.ErrType, 4}, {"select 1, 2, -status from cases", impl.ErrType, 7}, {"select sum(status) from cases", impl.ErrType, 3}, {"select id from cases order by status + 1", impl.ErrType, 6}, {"select id from cases order by id, id, not id", impl.ErrType, 10},
		{"select id from cases where id", impl.ErrType, 5}, {"select id from cases where 'a'", impl.ErrType, 5}, {"select id from cases where x''", impl.ErrType, 5}, {"select id from cases where id + 1", impl.ErrType, 5}, {"select id from cases where -null", impl.ErrType, 5}, {"select id from cases where id = status", impl.ErrType, 7}, {"select id from cases where status + 1", impl.ErrType, 6}, {"select id from cases where flag and id", impl.ErrType, 7},
		{"select x from one join notes on x", impl.ErrType, 6}, {"select x from one join notes on 'a'", impl.ErrType, 6}, {"select x from one join notes on x = what", impl.ErrType, 8}, {"select x from one join notes on x + 1", impl.ErrType, 6}, {"select x from one join notes on flag where x", impl.ErrType, 8}, {"select x from one join notes on x where x", impl.ErrType, 6}, {"select x from one join notes on -null", impl.ErrType, 6},
	})
}

func TestGroupsOfQueries(t *testing.T) {
	wantAllTold(t, []told{
		{"select id, count(*) from cases group by status", impl.ErrCount, 2}, {"select id from cases group by status", impl.ErrCount, 2}, {"select status, id from cases group by status", impl.ErrCount, 4}, {"select id from cases order by count(*)", impl.ErrCount, 2}, {"select count(*), id from cases", impl.ErrCount, 4}, {"select id, count(*) from cases", impl.ErrCount, 2}, {"select 1, sum(id) + n from cases", impl.ErrCount, 7}, {"select n + sum(id) from cases", impl.ErrCount, 3}, {"select count(*) from cases order by id", impl.ErrCount, 5}, {"select count(*) from cases order by 1, id", impl.ErrCount, 7}, {"select 1 from cases order by id, count(*)", impl.ErrCount, 5}, {"select 1 from cases order by count(*), id", impl.ErrCount, 7}, {"select status from cases group by status order by id", impl.ErrCount, 7}, {"select status from cases group by status order by sum(id), -(1 + id) desc", impl.ErrCount, 13},
		{"select sum(id + n), max(status) from cases", impl.OK, 0}, {"select sum(id) from cases group by status order by max(flag), status", impl.OK, 0}, {"select sum(id), -id from cases group by status", impl.ErrCount, 6}, {"select max(id) = id from cases", impl.ErrCount, 5}, {"select id is null from cases group by n", impl.ErrCount, 3}, {"select count(id) = 1 and id = 1 from cases group by n", impl.ErrCount, 8},
		{"select notes.id from cases join notes on true group by cases.id", impl.ErrCount, 2}, {"select cases.id from cases join notes on true group by cases.id", impl.OK, 0}, {"select a.id, b.id from cases as a join cases as b on true group by a.id", impl.ErrCount, 4}, {"select a.id from cases as a join cases as b on true group by b.id, a.id", impl.OK, 0}, {"select status, cases.status from cases join notes on true group by status", impl.OK, 0}, {"select what from cases join notes on what = status where what = 'a' group by notes.what", impl.OK, 0},
		{"select 1 from cases where id = 1 group by status", impl.OK, 0}, {"select count(*) from cases where flag", impl.OK, 0}, {"select count(*) from one join cases on x = id where x = 1", impl.OK, 0}, {"select id + 1 from cases group by id", impl.OK, 0}, {"select id as status from cases group by status", impl.ErrCount, 2},
	})
}

// Parts come in their order, each with all its faults; a column that is not grouped by is told where it is come to.
func TestOrderOfFaultsInQueries(t *testing.T) {
	wantAllTold(t, []told{
		{"select none, id + 'a' from cases where id", impl.ErrName, 2}, {"select id + 'a', none from cases where id", impl.ErrType, 4}, {"select 1 from cases join notes on none where none group by none order by none", impl.ErrName, 6}, {"select 1 from cases where none group by none order by none", impl.ErrName, 5}, {"select 1 from cases group by none order by none", impl.ErrName, 5}, {"select 1 from cases where id group by none order by none", impl.ErrType, 5}, {"select 1 from cases join one on id where none", impl.ErrType, 6}, {"select 1 from cases where flag group by none order by id + 'a'", impl.ErrName, 7},
		{"select none from nil", impl.ErrName, 3}, {"select none from cases join cases on none", impl.ErrTwice, 4}, {"select id from cases join notes on none", impl.ErrTwice, 2},
		{"select id from cases where none group by status", impl.ErrCount, 2}, {"select id from cases where id group by none", impl.ErrCount, 2}, {"select id, none from cases group by status", impl.ErrCount, 2}, {"select none, id from cases group by status", impl.ErrName, 2}, {"select id from cases group by none", impl.ErrCount, 2}, {"select id from cases group by status, none", impl.ErrCount, 2}, {"select status from cases group by status, none order by id", impl.ErrName, 6}, {"select status from cases where status group by status order by id", impl.ErrType, 5}, {"select cases.id from cases join notes on true group by id", impl.ErrCount, 2}, {"select what from cases join notes on true group by id, what", impl.ErrTwice, 8}, {"select what from cases join notes on true group by id", impl.ErrCount, 2},
		{"select id + status from cases group by flag", impl.ErrCount, 3}, {"select id + status from cases group by id", impl.ErrCount, 4}, {"select id + status from cases group by id, status", impl.ErrType, 4}, {"select status + id from cases group by status", impl.ErrCount, 4}, {"select none + id from cases group by flag", impl.ErrName, 3}, {"select id + none from cases group by flag", impl.ErrCount, 3}, {"select cases.none from cases group by flag", impl.ErrName, 2}, {"select cases.id + id from cases join notes on true group by cases.id", impl.ErrTwice, 4}, {"select id + sum(status) from cases", impl.ErrCount, 3}, {"select sum(status) + id from cases", impl.ErrType, 4}, {"select max(status) + id from cases", impl.ErrCount, 5}, {"select max(status) + 1 from cases", impl.ErrType, 3}, {"select -'a' + id from cases group by n", impl.ErrType, 4}, {"select 'a' + id from cases group by n", impl.ErrCount, 4}, {"select not id from cases group by n", impl.ErrCount, 3}, {"select not n from cases group by n", impl.ErrType, 3},
		{"select 1 from cases group by flag order by id and id", impl.ErrCount, 8}, {"select 1 from cases group by flag order by id + n, none", impl.ErrCount, 8}, {"select n = 1 or id from cases group by n", impl.ErrCount, 6}, {"select n = 'a' or id from cases group by n", impl.ErrType, 5}, {"select 1 from cases order by count(*), n, none", impl.ErrCount, 7}, {"select 1 from cases order by none, n, count(*)", impl.ErrName, 5}, {"select -id from cases order by count(*) + status", impl.ErrCount, 3}, {"select 1 from cases order by count(*) + status", impl.ErrCount, 7}, {"select 1 from cases group by status order by count(*) + status", impl.ErrType, 9},
	})
}

func TestFieldsOfAnswers(t *testing.T) {
	for _, c := range []struct{ s, want string }{
		{"select id from cases", "id int"}, {"select id as a from cases", "a int"}, {"select cases.id, cases.status as id from cases", "id int, id text"}, {"select flag, mark, n, status from cases", "flag bool, mark bytes, n int, status text"},
		{"select id as a, id as a, id, id from cases", "a int, a int, id int, id int"}, {"select c.id, n.id, what from cases as c join notes as n on true", "id int, id int, what text"}, {"select id as status from cases", "status int"}, {"select null as a, true as b, 7 as c, 'd' as d, x'00' as e from cases", "a null, b bool, c int, d text, e bytes"}, {"select min(status) as low, count(*) as many from cases", "low text, many int"}, {"select id, status as s from cases group by id, status", "id int, s text"}, {"select (id) from cases", "id int"},
	} {
		wantChecked(t, sql(t, c.s), typedTables(), fields(c.want), impl.OK, 0)
	}
	for s, kind := range map[string]int{"null": 0, "true": 1, "7": 2, "'a'": 3, "x'00'": 4, "id + 1": 2, "-id": 2, "not flag": 1, "id = 1": 1, "status is null": 1, "count(*)": 2, "count(status)": 2, "sum(id)": 2, "max(status)": 3, "min(mark)": 4, "max(null)": 0, "max(flag)": 1, "-null": 2, "null and null": 1, "null = null": 1} {
		wantChecked(t, sql(t, "select "+s+", 'b' as b from cases group by id, flag, status"), typedTables(), []impl.Field{{Type: kind}, {Name: "b", Type: impl.VaText}}, impl.OK, 0)
		wantChecked(t, sql(t, "select "+s+" as s from cases group by id, flag, status order by 1"), typedTables(), []impl.Field{{Name: "s", Type: kind}}, impl.OK, 0)
	}
	for _, count := range []int{1, 17, (impl.MaxTree - 2) / 2} {
		items := slices.Repeat([]impl.Tree{item(field("x"))}, count)
		wantChecked(t, query(append(items, from("one"))...), typedTables(), slices.Repeat(fields("x int"), count), impl.OK, 0)
	}
	wantChecked(t, query(append(slices.Repeat([]impl.Tree{item(field("x"))}, impl.MaxTree/2), from("one"))...), typedTables(), nil, impl.ErrBad, 0)
}

func TestInserts(t *testing.T) {
	wantAllTold(t, []told{
		{"insert into cases values (1, 'a', true, x'00', 2)", impl.OK, 0}, {"insert into cases values (null, null, null, null, null)", impl.OK, 0}, {"insert into one values (-1)", impl.OK, 0}, {"insert into one values (1 + 2 * -3 % null)", impl.OK, 0}, {"insert into notes values (-(1 + 2), 'a', 1 = 2 or not null, null)", impl.OK, 0}, {"insert into notes values (1, 'a', 'a' is null, 'b')", impl.OK, 0},
		{"insert into cases values (1, 'a', true, x'00')", impl.ErrCount, 0}, {"insert into cases values (1, 'a', true, x'00', 2, 3)", impl.ErrCount, 0}, {"insert into cases values (1)", impl.ErrCount, 0}, {"insert into one values (1, 2)", impl.ErrCount, 0}, {"insert into one values ('a', none)", impl.ErrCount, 0}, {"insert into none values (1)", impl.ErrName, 0},
		{"insert into cases values ('a', 'a', true, x'00', 2)", impl.ErrType, 1}, {"insert into cases values (1, 2, true, x'00', 2)", impl.ErrType, 2}, {"insert into cases values (1, 'a', 1, x'00', 2)", impl.ErrType, 3}, {"insert into cases values (1, 'a', true, '00', 2)", impl.ErrType, 4}, {"insert into cases values (1, 'a', true, x'00', x'00')", impl.ErrType, 5}, {"insert into cases values (1 + 1, -1, true, x'00', 2)", impl.ErrType, 4}, {"insert into cases values (1, -null, true, x'00', 2)", impl.ErrType, 2}, {"insert into cases values (1, null = 1, 1, x'00', 2)", impl.ErrType, 2},
		{"insert into one values (x)", impl.ErrName, 1}, {"insert into one values (one.x)", impl.ErrName, 1}, {"insert into one values (none)", impl.ErrName, 1}, {"insert into one values (1 + x)", impl.ErrName, 3}, {"insert into one values (x is null)", impl.ErrName, 2}, {"insert into notes values (1, what, true, 'a')", impl.ErrName, 2}, {"insert into notes values (1, 'a', 1 = id, 'a')", impl.ErrName, 5},
		{"insert into notes values (1 + 'a', 2, 3, 4)", impl.ErrType, 3}, {"insert into notes values (1, 2, id, none)", impl.ErrType, 2}, {"insert into notes values (1, id, 3, 4)", impl.ErrName, 2}, {"insert into notes values (1, 'a', not 1, 4)", impl.ErrType, 4}, {"insert into notes values (1, not 'a', 1, 4)", impl.ErrType, 3},
	})
}

func TestUpdatesAndDeletes(t *testing.T) {
	wantAllTold(t, []told{
		{"update cases set n = 1", impl.OK, 0}, {"update cases set n = null, flag = null, mark = null", impl.OK, 0}, {"update cases set mark = x'00', flag = id > 2 and flag, n = n + id where status = 'a'", impl.OK, 0}, {"update cases set n = cases.id where cases.flag", impl.OK, 0}, {"update notes set what = n, n = what, flag = not flag where null", impl.OK, 0}, {"update notes set what = null", impl.OK, 0}, {"update id set cases = cases or id.cases where id = x'00'", impl.OK, 0}, {"delete from cases", impl.OK, 0}, {"delete from cases where id = 1", impl.OK, 0}, {"delete from cases where cases.flag or null", impl.OK, 0}, {"delete from id where cases", impl.OK, 0},
		{"update cases set none = 1", impl.ErrName, 1}, {"update cases set what = 1", impl.ErrName, 1}, {"update cases set cases = 1", impl.ErrName, 1}, {"update cases set N = 1", impl.ErrName, 1}, {"update cases set n = 1, none = 1", impl.ErrName, 3}, {"update cases set n = 1 + 2, none = 1", impl.ErrName, 5},
		{"update cases set id = 1", impl.ErrGuard, 1}, {"update cases set status = 'a'", impl.ErrGuard, 1}, {"update cases set n = 1, status = 'a'", impl.ErrGuard, 3}, {"update one set x = x", impl.ErrGuard, 1}, {"update notes set id = 1", impl.ErrGuard, 1}, {"update notes set what = 'a'", impl.OK, 0}, {"update wide set c2 = 1", impl.ErrGuard, 1}, {"update wide set c3 = x'00'", impl.OK, 0},
		{"update cases set n = 1, n = 2", impl.ErrTwice, 3}, {"update cases set n = 1, flag = true, n = 2", impl.ErrTwice, 5}, {"update cases set n = n - n, n = n", impl.ErrTwice, 5}, {"update cases set n = 1, flag = null, flag = null, n = 2", impl.ErrTwice, 5},
		{"update cases set n = 'a'", impl.ErrType, 2}, {"update cases set flag = 1", impl.ErrType, 2}, {"update cases set mark = status", impl.ErrType, 2}, {"update cases set n = 1, flag = true, mark = 'a'", impl.ErrType, 6}, {"update cases set flag = -null", impl.ErrType, 2}, {"update cases set n = id = 1", impl.ErrType, 2},
		{"update cases set n = none", impl.ErrName, 2}, {"update cases set n = 1 + what", impl.ErrName, 4}, {"update cases set n = notes.n", impl.ErrName, 2}, {"update cases set n = 1 + status", impl.ErrType, 4}, {"update cases set flag = id = status", impl.ErrType, 4},
		{"update cases set n = 1 where id", impl.ErrType, 4}, {"update cases set n = 1 where none", impl.ErrName, 4}, {"update cases set n = 1 where id = status", impl.ErrType, 6}, {"update cases set n = 1, flag = true where flag and n", impl.ErrType, 8}, {"delete from cases where id", impl.ErrType, 2}, {"delete from cases where what = 'a'", impl.ErrName, 3}, {"delete from cases where notes.flag", impl.ErrName, 2}, {"delete from cases where id = 1 and none", impl.ErrName, 6}, {"delete from cases where -null", impl.ErrType, 2}, {"delete from cases where id + status", impl.ErrType, 4},
	})
}

func TestOrderOfFaultsInUpdates(t *testing.T) {
	wantAllTold(t, []told{
		{"update cases set none = none", impl.ErrName, 2}, {"update cases set none = 1 + 'a'", impl.ErrType, 4}, {"update cases set none = 'a', n = none", impl.ErrName, 1}, {"update cases set id = none", impl.ErrName, 2}, {"update cases set id = -'a'", impl.ErrType, 3}, {"update cases set id = 'a'", impl.ErrGuard, 1}, {"update cases set id = 1, id = 2", impl.ErrGuard, 1}, {"update cases set n = 1, id = 'a', id = none", impl.ErrGuard, 3}, {"update cases set n = 1, n = none", impl.ErrName, 4}, {"update cases set n = 1, n = 'a'", impl.ErrTwice, 3}, {"update cases set n = 'a', n = 1", impl.ErrType, 2}, {"update cases set n = 'a' where none", impl.ErrType, 2}, {"update cases set none = 1 where none", impl.ErrName, 1}, {"update cases set n = 1, none = 1, id = 1 where id", impl.ErrName, 3}, {"update cases set id = 1, none = 1", impl.ErrGuard, 1}, {"update none set id = none where 1", impl.ErrName, 0},
	})
}

// Of an update of each table each column is set, with each type: by its place it is of the key or not.
func TestSetsOfEachColumn(t *testing.T) {
	values := []impl.Value{{}, flag(1), num(1), text("a"), raw("a")}
	for _, list := range append(rightCatalogs(), typedTables()) {
		for _, x := range list {
			for i, c := range x.Columns {
				for kind, v := range values {
					wanted, place := impl.OK, 0
					if kind != impl.VaNull && kind != c.Type {
						wanted, place = impl.ErrType, 2
					}
					if i < x.Key {
						wanted, place = impl.ErrGuard, 1
					}
					wantChecked(t, updateOf(x.Name, setTo(c.Name, lit(v))), list, nil, wanted, place)
				}
			}
		}
	}
}

func TestGrouped(t *testing.T) {
	for _, c := range []struct {
		s    string
		want bool
	}{
		{"select id from cases", false}, {"select 1 from none", false}, {"select id + 1, -n from cases join notes on true where flag order by id limit 3", false}, {"select counts, summ, mins from cases", false},
		{"select id from cases group by id", true}, {"select 1 from none group by none", true}, {"select id from cases where flag group by a, b order by id limit 1", true}, {"select count(*) from cases", true}, {"select count(id) from cases", true}, {"select sum(id) from cases", true}, {"select min('a') from cases", true}, {"select max(none) from none", true}, {"select id, 1 + -max(id) from cases", true}, {"select id from cases order by count(*)", true}, {"select id from cases order by id, not (min(id) is null) desc", true}, {"select sum(id) from cases group by id order by max(id)", true},
	} {
		if yes, got := impl.Grouped(sql(t, c.s)); yes != c.want || got != impl.OK {
			t.Errorf("%s: %v %d", c.s, yes, got)
		}
	}
	wrong := append(wrongTrees(), insertInto("t", lit(num(1))), updateOf("t", setTo("a", field("a"))), deleteFrom("t"), agg("count"), groupBy("a"), query(item(agg("count"))), query(item(field("a")), from("t"), where(agg("count"))), query(item(agg("sum", agg("count"))), from("t"), groupBy("a")))
	for _, n := range wrong {
		if yes, got := impl.Grouped(n); yes || got != impl.ErrBad {
			t.Errorf("%.300s: %v %d", drawn(n), yes, got)
		}
	}
}

func TestHowDeepCheckedStatementsMayBe(t *testing.T) {
	list := []impl.Table{table("t", "a int, b int null", 1)}
	for deep := impl.MaxDeep - 2; deep <= impl.MaxDeep+1; deep++ {
		for _, e := range []impl.Tree{chain(deep - 2), stair(deep - 2)} {
			size, lost := impl.TreeSize(e), roomyTree(e)
			*nodesOf(&lost)[size-1] = field("none")
			for _, c := range []struct {
				n             impl.Tree
				want          []impl.Field
				wanted, place int
			}{
				{queryOf(e), []impl.Field{{Type: impl.VaInt}}, impl.OK, 0}, {queryOf(lost), nil, impl.ErrName, 1 + size}, {query(item(field("a")), from("t"), rising(e)), fields("a int"), impl.OK, 0}, {query(item(field("a")), from("t"), rising(lost)), nil, impl.ErrName, 4 + size},
				{updateOf("t", setTo("b", e)), nil, impl.OK, 0}, {updateOf("t", setTo("b", lost)), nil, impl.ErrName, 1 + size}, {deleteFrom("t", where(e)), nil, impl.ErrType, 2}, {deleteFrom("t", where(lost)), nil, impl.ErrName, 1 + size},
				{query(item(agg("count")), from("t"), rising(e)), nil, impl.ErrCount, 5 + deep - 3}, // the first column stands deepest
			} {
				if deep > impl.MaxDeep {
					c.want, c.wanted, c.place = nil, impl.ErrBad, 0
				}
				wantChecked(t, c.n, list, c.want, c.wanted, c.place)
			}
		}
	}
}

func TestHowGreatCheckedStatementsMayBe(t *testing.T) {
	list := []impl.Table{table("t", "a int, b int null", 1)}
	for size := impl.MaxTree - 3; size <= impl.MaxTree+2; size++ {
		group := groupBy(slices.Repeat([]string{"a"}, size-5)...)
		group.Kids[size-6] = field("none")
		many := ofSize(size)
		for _, c := range []struct {
			n             impl.Tree
			want          []impl.Field
			wanted, place int
		}{
			{many[0], nil, impl.ErrCount, 0}, {many[1], nil, impl.ErrGuard, 1}, {many[2], fields("a int"), impl.OK, 0}, {query(item(field("a")), from("t"), group), nil, impl.ErrName, size - 1},
		} {
			if size > impl.MaxTree {
				c.want, c.wanted, c.place = nil, impl.ErrBad, 0
			}
			wantChecked(t, c.n, list, c.want, c.wanted, c.place)
		}
	}
}

// The least and the greatest integers, wherever one may be handed in.
func TestGreatNumbersInStatements(t *testing.T) {
	for _, n := range []int{-1 << 63, -1, 1000000000000000000, 1<<63 - 1} {
		wantNoStatement(t, typedTables(), query(item(lit(num(n))), from("one")), impl.ErrBad)
		wantNoStatement(t, typedTables(), query(item(field("x")), from("one"), limit(n)), impl.ErrBad)
		wantNoStatement(t, typedTables(), insertInto("one", lit(num(n))), impl.ErrBad)
		wantNoStatement(t, typedTables(), impl.Tree{Kind: n}, impl.ErrBad)
		wantNoStatement(t, []impl.Table{table("one", "x int", n)}, deleteFrom("one"), impl.ErrBad)
		if yes, got := impl.Grouped(impl.Tree{Kind: n, N: n}); yes || got != impl.ErrBad {
			t.Error("Grouped", n, yes, got)
		}
	}
	wantAllTold(t, []told{{fmt.Sprint("insert into one values (-", 999999999999999999, ")"), impl.OK, 0}, {"select 999999999999999999 * x from one limit 999999999999999999", impl.OK, 0}})
}
