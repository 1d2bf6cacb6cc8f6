package tests

import (
	"fmt"
	"slices"
	"strings"
	"testing"

	"loop.example/g00208/impl"
)

// checkParsed holds what a text is read as against the document's words.
func checkParsed(t *testing.T, s string) int {
	t.Helper()
	n, got, place := impl.ParseSql(s)
	want, wantCode, wantPlace := parseByWords(s)
	if got != wantCode || place != wantPlace || !sameTree(n, want) {
		t.Errorf("%.1100q: %d at %d %.500s, want %d at %d %.500s", s, got, place, drawn(n), wantCode, wantPlace, drawn(want))
	}
	return got
}

// wantFault asks for a code and a place, and for nothing else.
func wantFault(t *testing.T, s string, code, at int) {
	t.Helper()
	n, got, place := impl.ParseSql(s)
	if got != code || place != at || !sameTree(n, impl.Tree{}) {
		t.Errorf("%.1100q: %d at %d %.200s, want %d at %d", s, got, place, drawn(n), code, at)
	}
}

func TestStatementTrees(t *testing.T) {
	for _, c := range statementTrees {
		n, got, place := impl.ParseSql(c.text)
		if got != impl.OK || place != 0 || !sameTree(n, c.tree) {
			t.Errorf("%s: %d at %d: %s, want %s", c.text, got, place, drawn(n), drawn(c.tree))
		}
		checkParsed(t, c.text)
	}
}

// levelled are expressions of all levels, as they are drawn.
var levelled = []struct{ text, drawn string }{
	{"a or b or c", "(binary or (binary or (col a) (col b)) (col c))"},
	{"a or (b or c)", "(binary or (col a) (binary or (col b) (col c)))"},
	{"a and b and c", "(binary and (binary and (col a) (col b)) (col c))"},
	{"a or b and c", "(binary or (col a) (binary and (col b) (col c)))"},
	{"a and b or c", "(binary or (binary and (col a) (col b)) (col c))"},
	{"(a or b) and c", "(binary and (binary or (col a) (col b)) (col c))"},
	{"not a or b", "(binary or (unary not (col a)) (col b))"},
	{"not a and b", "(binary and (unary not (col a)) (col b))"},
	{"not (a and b)", "(unary not (binary and (col a) (col b)))"},
	{"not not a", "(unary not (unary not (col a)))"},
	{"a and not not b or not c", "(binary or (binary and (col a) (unary not (unary not (col b)))) (unary not (col c)))"},
	{"not a = b", "(unary not (binary = (col a) (col b)))"},
	{"(not a) = b", "(binary = (unary not (col a)) (col b))"},
	{"not a is null", "(unary not (unary isnull (col a)))"},
	{"(not a) is not null", "(unary isnotnull (unary not (col a)))"},
	{"a = b", "(binary = (col a) (col b))"}, {"a <> b", "(binary <> (col a) (col b))"}, {"a < b", "(binary < (col a) (col b))"}, {"a <= b", "(binary <= (col a) (col b))"}, {"a > b", "(binary > (col a) (col b))"}, {"a >= b", "(binary >= (col a) (col b))"},
	{"(a = b) = c", "(binary = (binary = (col a) (col b)) (col c))"},
	{"a = (b = c)", "(binary = (col a) (binary = (col b) (col c)))"},
	{"(a is null) is null", "(unary isnull (unary isnull (col a)))"},
	{"a + b is null", "(unary isnull (binary + (col a) (col b)))"},
	{"a = b and c is not null", "(binary and (binary = (col a) (col b)) (unary isnotnull (col c)))"},
	{"a + b = c - d", "(binary = (binary + (col a) (col b)) (binary - (col c) (col d)))"},
	{"a - b - c", "(binary - (binary - (col a) (col b)) (col c))"},
	{"a - (b - c)", "(binary - (col a) (binary - (col b) (col c)))"},
	{"a - b + c", "(binary + (binary - (col a) (col b)) (col c))"},
	{"a + b * c - d", "(binary - (binary + (col a) (binary * (col b) (col c))) (col d))"},
	{"a * b / c % d", "(binary % (binary / (binary * (col a) (col b)) (col c)) (col d))"},
	{"a * (b / c)", "(binary * (col a) (binary / (col b) (col c)))"},
	{"(a + b) * c", "(binary * (binary + (col a) (col b)) (col c))"},
	{"a - -b", "(binary - (col a) (unary - (col b)))"},
	{"a--b", "(binary - (col a) (unary - (col b)))"},
	{"--a", "(unary - (unary - (col a)))"},
	{"-a * b", "(binary * (unary - (col a)) (col b))"},
	{"a * -b + c", "(binary + (binary * (col a) (unary - (col b))) (col c))"},
	{"-(a * b)", "(unary - (binary * (col a) (col b)))"},
	{"-a.b", "(unary - (col b of a))"},
	{"-1", "(unary - (lit 1))"}, {"- 1", "(unary - (lit 1))"}, {"-'a'", "(unary - (lit 'a'))"}, {"-null", "(unary - (lit null))"}, {"-(1)", "(unary - (lit 1))"},
	{"a<-b", "(binary < (col a) (unary - (col b)))"}, {"a<>b", "(binary <> (col a) (col b))"}, {"a>=-1", "(binary >= (col a) (unary - (lit 1)))"},
	{"null", "(lit null)"}, {"true", "(lit true)"}, {"false", "(lit false)"}, {"0", "(lit 0)"}, {"999999999999999999", "(lit 999999999999999999)"}, {"'it''s'", "(lit 'it''s')"}, {"x'0a'", "(lit x'0a')"}, {"'from'", "(lit 'from')"}, {"'('", "(lit '(')"}, {"''", "(lit '')"},
	{"null is null", "(unary isnull (lit null))"}, {"null is not null", "(unary isnotnull (lit null))"}, {"true = false", "(binary = (lit true) (lit false))"},
	{"a", "(col a)"}, {"a.b", "(col b of a)"}, {"a . b", "(col b of a)"}, {"a\n.\nb", "(col b of a)"}, {"x.x", "(col x of x)"}, {"Select", "(col Select)"}, {"COUNT", "(col COUNT)"}, {"NULL.True", "(col True of NULL)"}, {"NAME", "(col NAME)"},
	{"count(*)", "(agg count)"}, {"count ( * )", "(agg count)"}, {"count(a)", "(agg count (col a))"}, {"sum(a)", "(agg sum (col a))"}, {"min(a)", "(agg min (col a))"}, {"max(a)", "(agg max (col a))"},
	{"sum(a or b)", "(agg sum (binary or (col a) (col b)))"}, {"sum((a))", "(agg sum (col a))"}, {"-count(*)", "(unary - (agg count))"}, {"count(*) * 2", "(binary * (agg count) (lit 2))"}, {"count(*)*count(*)", "(binary * (agg count) (agg count))"}, {"count(-1 * 2)", "(agg count (binary * (unary - (lit 1)) (lit 2)))"},
	{"max(a) is null", "(unary isnull (agg max (col a)))"}, {"not min(a) < 1", "(unary not (binary < (agg min (col a)) (lit 1)))"},
	{"(a)", "(col a)"}, {"((a))", "(col a)"}, {"(((a) + ((b))))", "(binary + (col a) (col b))"}, {"(not (a))", "(unary not (col a))"}, {"(a.b)", "(col b of a)"}, {"(-(a))", "(unary - (col a))"},
}

func TestLevels(t *testing.T) {
	for _, c := range levelled {
		for _, form := range []string{"select ? from t", "select b, ? as c from t", "select ?, b from t", "select a from t order by ?", "select a from t order by b, ? desc limit 1"} {
			n, got, place := impl.ParseSql(strings.Replace(form, "?", c.text, 1))
			if got != impl.OK || place != 0 || !strings.Contains(drawn(n), " "+c.drawn+")") {
				t.Errorf("%s: %d at %d: %s, want %s", c.text, got, place, drawn(n), c.drawn)
			}
			checkParsed(t, strings.Replace(form, "?", c.text, 1))
		}
		for _, form := range []string{"insert into t values (?)", "insert into t values (1, ?, 2)", "update t set a = ?", "update t set a = 1, b = ? where c", "delete from t where ?", "select a from t join u on ?", "select a from t join u on ? where ? group by a"} {
			checkParsed(t, strings.ReplaceAll(form, "?", c.text))
		}
	}
}

func TestFaultsOfStatements(t *testing.T) {
	for _, c := range []struct {
		text  string
		place int
	}{
		{"", 0}, {"  \n ", 4}, {"a", 0}, {" selects a from t", 1}, {"Select a from t", 0}, {"SELECT a from t", 0}, {"1", 0}, {"'select' a from t", 0}, {"(select a from t)", 0}, {"from t", 0}, {"where a", 0}, {"values (1)", 0},
		{"select", 6}, {"select ", 7}, {"select from t", 7}, {"select a", 8}, {"select a,", 9}, {"select a, from t", 10}, {"select , a from t", 7}, {"select * from t", 7}, {"select a b from t", 9}, {"select a as from t", 12}, {"select a as 1 from t", 12}, {"select a as b c from t", 14}, {"select a as b.c from t", 13}, {"select a from", 13}, {"select a from 't'", 14}, {"select a from 1", 14}, {"select a from select", 14}, {"select a from t t", 16}, {"select a from t.u", 15}, {"select a from t, u", 15}, {"select a from (t)", 14},
		{"select a from t as", 18}, {"select a from t as where", 19}, {"select a from t as x y", 21}, {"select a from t join", 20}, {"select a from t join u", 22}, {"select a from t join u where a", 23}, {"select a from t join u as", 25}, {"select a from t join u as on a", 26}, {"select a from t join u on", 25}, {"select a from t join u on where a", 26}, {"select a from t on a", 16}, {"select a from t join u on a join v on a", 28}, {"select a from t join join", 21},
		{"select a from t where", 21}, {"select a from t where a b", 24}, {"select a from t where where", 22}, {"select a from t where a where b", 24}, {"select a from t where a, b", 23}, {"select a from t where a as b", 24}, {"select a from t where a desc", 24},
		{"select a from t group", 21}, {"select a from t group a", 22}, {"select a from t group by", 24}, {"select a from t group by 1", 25}, {"select a from t group by a + 1", 27}, {"select a from t group by (a)", 25}, {"select a from t group by a,", 27}, {"select a from t group by a b", 27}, {"select a from t group by a.", 27}, {"select a from t group by a.b.c", 28}, {"select a from t group by a where b", 27}, {"select a from t group by a desc", 27}, {"select a from t group by count(*)", 25}, {"select a from t group by null", 25}, {"select a from t by a", 16},
		{"select a from t order", 21}, {"select a from t order a", 22}, {"select a from t order by", 24}, {"select a from t order by desc", 25}, {"select a from t order by a desc desc", 32}, {"select a from t order by a,", 27}, {"select a from t order by a desc,", 32}, {"select a from t order by a group by b", 27}, {"select a from t order by a asc", 27}, {"select a from t order by a order by b", 27},
		{"select a from t limit", 21}, {"select a from t limit x", 22}, {"select a from t limit '1'", 22}, {"select a from t limit x'01'", 22}, {"select a from t limit null", 22}, {"select a from t limit true", 22}, {"select a from t limit -1", 22}, {"select a from t limit (1)", 22}, {"select a from t limit 1 + 1", 24}, {"select a from t limit 1 2", 24}, {"select a from t limit 1 order by a", 24}, {"select a from t limit 1 where a", 24}, {"select a from t limit 1, 2", 23},
		{"insert", 6}, {"insert t", 7}, {"insert into", 11}, {"insert into values (1)", 12}, {"insert into t", 13}, {"insert into t (1)", 14}, {"insert into t values", 20}, {"insert into t values 1", 21}, {"insert into t values (", 22}, {"insert into t values ()", 22}, {"insert into t values (1", 23}, {"insert into t values (1,", 24}, {"insert into t values (1,)", 24}, {"insert into t values (1 2)", 24}, {"insert into t values (1) (2)", 25}, {"insert into t values (1), (2)", 24}, {"insert into t values (1) where a", 25}, {"insert into t as x values (1)", 14}, {"insert into t values (1 as a)", 24}, {"insert into t.u values (1)", 13}, {"insert into t values (*)", 22},
		{"update", 6}, {"update set a = 1", 7}, {"update t", 8}, {"update t a = 1", 9}, {"update t set", 12}, {"update t set a", 14}, {"update t set a 1", 15}, {"update t set a =", 16}, {"update t set a = ,", 17}, {"update t set a = 1,", 19}, {"update t set a = 1 b = 2", 19}, {"update t set a = 1, where b", 20}, {"update t set t.a = 1", 14}, {"update t set 1 = a", 13}, {"update t set a <> 1", 15}, {"update t set a = 1 where", 24}, {"update t set a = 1 where b limit 1", 27}, {"update t as x set a = 1", 9}, {"update t set set = 1", 13}, {"update t set a = b = c = d", 23}, {"update t set (a = 1)", 13},
		{"delete", 6}, {"delete t", 7}, {"delete from", 11}, {"delete from where a", 12}, {"delete from t a", 14}, {"delete from t where", 19}, {"delete from t where a where b", 22}, {"delete from t as x", 14}, {"delete from t join u on a", 14}, {"delete from t limit 1", 14}, {"delete a from t", 7}, {"delete from t delete from t", 14}, {"delete from t,", 13},
	} {
		wantFault(t, c.text, impl.ErrSyntax, c.place)
		checkParsed(t, c.text)
	}
}

func TestFaultsOfExpressions(t *testing.T) {
	for _, c := range []struct {
		text  string
		place int
	}{
		{"a = b = c", 6}, {"a < b > c", 6}, {"a <> b <= c", 7}, {"a = b is null", 6}, {"a is null = b", 10}, {"a is null is null", 10}, {"a is not null is not null", 14}, {"a is null + 1", 10}, {"a is", -1}, {"a is a", 5}, {"a is true", 5}, {"a is not", -1}, {"a is not true", 9}, {"a is not not null", 9}, {"a is 'null'", 5}, {"is null", 0}, {"a isnull", 2}, {"a not null", 2}, {"a = is null", 4},
		{"not", -1}, {"not not", -1}, {"a not b", 2}, {"a = not b", 4}, {"a + not b", 4}, {"a * not b", 4}, {"- not a", 2}, {"a and", -1}, {"a or", -1}, {"and a", 0}, {"or a", 0}, {"a and or b", 6}, {"a or and b", 5}, {"a and and b", 6}, {"not and a", 4}, {"a = and b", 4}, {"a is null not", 10}, {"(not a) not b", 8},
		{"a +", -1}, {"+ a", 0}, {"a + + b", 4}, {"a * * b", 4}, {"a / ", -1}, {"a * / b", 4}, {"a % = b", 4}, {"a =", -1}, {"= a", 0}, {"a = = b", 4}, {"a < > b", 4}, {"a > = b", 4}, {"a =< b", 3}, {"a - ", -1}, {"-", -1}, {"a - - ", -1}, {"-*a", 1}, {"a -* b", 3}, {"a(b)", 1}, {"a b", 2}, {"1 2", 2}, {"1 a", 2}, {"a 1", 2}, {"'a' 'b'", 4}, {"a 'b'", 2}, {"1(2)", 1},
		{"(", -1}, {")", 0}, {"()", 1}, {"(a", -1}, {"(a))", 3}, {"a)", 1}, {"((a)", -1}, {"(a b)", 3}, {"(a, b)", 2}, {"(a) (b)", 4}, {"(a as b)", 3}, {"(a desc)", 3}, {"(*)", 1}, {"*", 0},
		{"a.", -1}, {".a", 0}, {"a.b.c", 3}, {"a..b", 2}, {"a.1", 2}, {"1.a", 1}, {"a.from", 2}, {"null.a", 4}, {"a.null", 2}, {"a.*", 2}, {"count.a", 5}, {"a.count", 2}, {"'a'.b", 3}, {"(a).b", 3}, {"a.(b)", 2}, {"a.'b'", 2},
		{"count", -1}, {"count a", 6}, {"count(", -1}, {"count()", 6}, {"count(*", -1}, {"count(*,", 7}, {"count(* + 1)", 8}, {"count(**)", 7}, {"count(*) (", 9}, {"sum(*)", 4}, {"min(*)", 4}, {"max(*)", 4}, {"sum()", 4}, {"sum", -1}, {"sum a", 4}, {"sum(a", -1}, {"sum(a, b)", 5}, {"sum(a b)", 6}, {"count(a, b)", 7}, {"count = 1", 6}, {"count(sum)", 9}, {"count('*') *", -1}, {"avg(a)", 3}, {"Count(*)", 5},
		{"from", 0}, {"group", 0}, {"by", 0}, {"as", 0}, {"desc", 0}, {"values", 0}, {"set", 0}, {"into", 0}, {"select", 0}, {"select a from t", 0}, {"(select a from t)", 1},
	} {
		for _, form := range []struct{ ahead, behind string }{{"delete from t where ", ""}, {"update t set a = ", ""}, {"select a from t where ", ""}, {"select a from t join u on ", ""}} {
			at := len(form.ahead) + c.place
			if c.place < 0 {
				at = len(form.ahead) + len(c.text)
			}
			s := form.ahead + c.text + form.behind
			wantFault(t, s, impl.ErrSyntax, at)
			checkParsed(t, s)
		}
		for _, form := range []string{"select ? from t", "insert into t values (?)", "select a from t order by ? desc"} {
			checkParsed(t, strings.Replace(form, "?", c.text, 1))
		}
	}
}

// Where a name must stand, no word of statements may.
func TestStatementWordsForNames(t *testing.T) {
	for _, form := range []string{
		"select # as b from t", "select # . b from t", "select t . # from t", "select a as # from t", "select a from # as x", "select a from t as # where a", "select a from t join # on a", "select a from t join u as # on a",
		"select a from t group by #, b", "select a from t group by t . #", "insert into # values (1)", "update # set a = 1", "update t set # = 1", "update t set a = 1, # = 2", "delete from # where a", "delete from t where #", "delete from t where a = #",
	} {
		for _, word := range statementWords {
			checkParsed(t, strings.Replace(form, "#", word, 1))
		}
		for _, name := range oddNames {
			if got := checkParsed(t, strings.Replace(form, "#", name, 1)); got != impl.OK {
				t.Errorf("%s: %d of name %s", form, got, name)
			}
		}
	}
	wantFault(t, "select a from t as join", impl.ErrSyntax, 19)
	wantFault(t, "insert into values values (1)", impl.ErrSyntax, 12)
	wantFault(t, "update t set set = 1", impl.ErrSyntax, 13)
	wantFault(t, "delete from from", impl.ErrSyntax, 12)
	wantFault(t, "select a.select from t", impl.ErrSyntax, 9)
}

// openers stand each within the other, with what ends them.
var openers = []struct{ ahead, behind string }{{"(", ")"}, {"not ", ""}, {"-", ""}, {"( ", " )"}, {"- ", ""}, {"not(", ")"}, {"-(", ")"}, {"not -", ""}}

func TestHowManyStandWithinOthers(t *testing.T) {
	for _, o := range openers[:5] {
		for count := range 16 {
			s := "delete from t where " + strings.Repeat(o.ahead, count) + "a" + strings.Repeat(o.behind, count)
			if count > 12 {
				wantFault(t, s, impl.ErrMany, 20+12*len(o.ahead))
			} else if _, got, _ := impl.ParseSql(s); got != impl.OK {
				t.Errorf("%s: %d", s, got)
			}
			checkParsed(t, s)
		}
	}
	within := func(ahead string, count int, one, behind string) string {
		return "select " + strings.Repeat(ahead, count) + one + strings.Repeat(behind, count) + " from t"
	}
	for _, c := range []struct {
		text        string
		code, place int
	}{
		{within("(", 12, "a", ")"), impl.OK, 0}, {within("(", 13, "a", ")"), impl.ErrMany, 19}, {within("(", 12, "-a", ")"), impl.ErrMany, 19}, {within("(", 12, "not a", ")"), impl.ErrMany, 19}, {within("(", 11, "-a", ")"), impl.OK, 0}, {within("(", 11, "not a", ")"), impl.OK, 0}, {within("(", 11, "--a", ")"), impl.ErrMany, 19}, {within("(", 11, "not -a", ")"), impl.ErrMany, 22},
		{within("(", 11, "count(*)", ")"), impl.OK, 0}, {within("(", 12, "count(*)", ")"), impl.ErrMany, 24}, {within("(", 11, "sum(a)", ")"), impl.OK, 0}, {within("(", 12, "sum(a)", ")"), impl.ErrMany, 22}, {within("(", 11, "sum(-a)", ")"), impl.ErrMany, 22}, {within("(", 11, "sum((a))", ")"), impl.ErrMany, 22}, {within("(", 10, "sum((a))", ")"), impl.OK, 0}, {within("-", 12, "max(a)", ""), impl.ErrMany, 22}, {within("-", 11, "max(a)", ""), impl.OK, 0}, {within("not ", 12, "count (a)", ""), impl.ErrMany, 61},
		{within("(", 12, "a - b", ")"), impl.OK, 0}, {within("(", 12, "a is not null", ")"), impl.OK, 0}, {within("(", 12, "a.b", ")"), impl.OK, 0}, {within("(", 12, "a - -b", ")"), impl.ErrMany, 23}, {within("(", 12, "a and not b", ")"), impl.ErrMany, 25}, {within("(", 12, "a) + (b", ")"), impl.OK, 0}, {within("(", 12, "a * (b)", ")"), impl.ErrMany, 23}, {within("(", 12, "(a) * (b)", ")"), impl.ErrMany, 19},
		{"select ((((((((((((a)))))))))))), ((((((((((((a)))))))))))) from t", impl.OK, 0}, {"select a from t where ((((((((((((a)))))))))))) order by ------------a", impl.OK, 0}, {"select a from t where ((((((((((((a)))))))))))) order by -------------a", impl.ErrMany, 69},
		{"select (a) + (b) + (c) + (d) + (e) + (f) + (g) + (h) + (i) + (j) + (k) + (l) + (m) + (n) from t", impl.OK, 0}, {"select a from t where not a and not b and not c and not d and not e and not f and not g and not h and not i and not j and not k and not l and not m and not n", impl.OK, 0}, {"select -a -b -c -d -e -f -g -h -i -j -k -l -m -n from t", impl.OK, 0}, {"select a - -b - -c - -d - -e - -f - -g - -h - -i - -j - -k - -l - -m - -n from t", impl.OK, 0},
		{"select a, (((((((((((((b))))))))))))), -------------c from t", impl.ErrMany, 22}, {"select not not not ((((-----count(*))))) from t", impl.ErrMany, 33}, {"select not not not ((((-----1)))) from t", impl.OK, 0}, {"select not not not ((((------1)))) from t", impl.ErrMany, 28},
		{"insert into t values ((((((((((((1))))))))))))", impl.OK, 0}, {"insert into t values (((((((((((((1)))))))))))))", impl.OK, 0}, {"insert into t values ((((((((((((((1))))))))))))))", impl.ErrMany, 34}, {"insert into t values (1, -------------1)", impl.ErrMany, 37},
		{"update t set a = ((((((((((((1)))))))))))), b = (((((((((((((1)))))))))))))", impl.ErrMany, 60}, {"update t set a = 1 where -------------1", impl.ErrMany, 37}, {"select a from t join u on (((((((((((((a)))))))))))))", impl.ErrMany, 38},
	} {
		_, got, place := impl.ParseSql(c.text)
		if got != c.code || place != c.place {
			t.Errorf("%s: %d at %d, want %d at %d", c.text, got, place, c.code, c.place)
		}
		checkParsed(t, c.text)
	}
}

// Openers of all kinds within each other, some more than are let.
func TestMixedOpeners(t *testing.T) {
	d := &dice{state: 54}
	count := map[int]int{}
	for range 1500 {
		ahead, behind, inNot := "", "", true
		for range d.below(16) {
			o := openers[d.below(len(openers))]
			if strings.HasPrefix(o.ahead, "not") && !inNot {
				o = openers[0]
			}
			inNot = strings.HasSuffix(o.ahead, "(") || strings.HasSuffix(o.ahead, "( ") || o.ahead == "not " // `not` may not stand behind a `-`
			if d.below(4) == 0 && strings.HasSuffix(o.ahead, "(") {
				o.ahead += []string{"b + ", "b * ", "b = ", "b and "}[d.below(4)]
				inNot = strings.HasSuffix(o.ahead, "and ")
			}
			ahead, behind = ahead+o.ahead, o.behind+behind
		}
		count[checkParsed(t, "delete from t where "+ahead+"a"+behind)]++
	}
	if count[impl.OK] < 300 || count[impl.ErrMany] < 300 || count[impl.ErrSyntax] > 0 {
		t.Error("few of a kind", count)
	}
}

func TestTreesThatAreNotRight(t *testing.T) {
	plus := func(count int) string { return "a" + strings.Repeat(" + a", count) }
	for _, c := range []struct {
		text string
		code int
	}{
		{"select a from t where count(*) = 1", impl.ErrForm}, {"select a from t join u on sum(a) = 1", impl.ErrForm}, {"insert into t values (1, max(a))", impl.ErrForm}, {"update t set a = count(*)", impl.ErrForm}, {"update t set a = 1 where min(a) = 1", impl.ErrForm}, {"delete from t where not -sum(a) is null", impl.ErrForm}, {"select sum(sum(a)) from t", impl.ErrForm}, {"select count(count(*)) from t", impl.ErrForm}, {"select a from t order by max(1 + min(a))", impl.ErrForm}, {"select sum(a) + sum(b) from t order by sum(c)", impl.OK},
		{"select " + plus(17) + " from t", impl.OK}, {"select " + plus(18) + " from t", impl.ErrForm}, {"insert into t values (" + plus(18) + ")", impl.OK}, {"insert into t values (" + plus(19) + ")", impl.ErrForm}, {"delete from t where " + plus(17), impl.OK}, {"delete from t where " + plus(18), impl.ErrForm},
		{"insert into t values (" + strings.Repeat("1, ", 98) + "1)", impl.ErrMany}, {"insert into t values (" + strings.Repeat("1, ", 96) + "1)", impl.OK},
		{"select a from t where " + strings.Repeat("a or ", 17) + "a", impl.OK}, {"select a from t where " + strings.Repeat("a or ", 18) + "a", impl.ErrForm}, {"select a from t where " + strings.Repeat("a or (", 10) + "a" + strings.Repeat(")", 10), impl.OK},
	} {
		if _, got, _ := impl.ParseSql(c.text); got != c.code {
			t.Errorf("%s: %d, want %d", c.text, got, c.code)
		}
		checkParsed(t, c.text)
	}
}

// longStatement has just so many nodes: of columns in items, each two.
func longStatement(items int, behind string) string {
	return "select " + strings.Repeat("a, ", items-1) + "a from t" + behind
}

func TestBoundsOfParsedTrees(t *testing.T) {
	// the text of an item has 2 tokens and 2 nodes, that of an insert's value 2 and 1
	for _, c := range []struct {
		text string
		size int
	}{
		{longStatement(59, ""), 120}, {longStatement(58, " limit 1"), 119}, {longStatement(59, " limit 1"), 121}, {longStatement(58, " group by a"), 120}, {longStatement(58, " group by a, b"), 121}, {longStatement(58, " where a"), 120}, {longStatement(58, " where -a"), 121}, {longStatement(57, " join u on a order by a"), 121}, {longStatement(56, " join u on a order by a limit 0"), 120},
		{"select " + strings.Repeat("-a, ", 39) + "a from t", 121}, {"select " + strings.Repeat("-a, ", 38) + "a, a from t", 120}, {"insert into t values (" + strings.Repeat("--1, ", 39) + "1, 1)", 120}, {"insert into t values (" + strings.Repeat("--1, ", 39) + "1, -1)", 121}, {"update t set " + strings.Repeat("a = ---1, ", 23) + "a = --1", 120}, {"update t set " + strings.Repeat("a = ---1, ", 23) + "a = ---1", 121},
	} {
		n, got, place := impl.ParseSql(c.text)
		if c.size <= impl.MaxTree && (got != impl.OK || impl.TreeSize(n) != c.size) {
			t.Errorf("%s: %d, %d nodes, want %d", c.text, got, impl.TreeSize(n), c.size)
		}
		if c.size > impl.MaxTree && (got != impl.ErrForm || place != 0 || !sameTree(n, impl.Tree{})) {
			t.Errorf("%s: %d at %d of %d nodes", c.text, got, place, c.size)
		}
		checkParsed(t, c.text)
	}
}

func TestLongStatements(t *testing.T) {
	s := "select a from t"
	for _, c := range []struct {
		what, text  string
		code, place int
	}{
		{"blanks to the bound", s + strings.Repeat(" ", impl.MaxSource-len(s)), impl.OK, 0}, {"one more", s + strings.Repeat("\n", impl.MaxSource-len(s)+1), impl.ErrRange, 0}, {"blanks ahead", strings.Repeat("\n", impl.MaxSource-len(s)) + s, impl.OK, 0},
		{"MaxText", s + strings.Repeat(" ", impl.MaxText-len(s)), impl.ErrRange, 0}, {"one more", s + strings.Repeat(" ", impl.MaxText-len(s)+1), impl.ErrLong, 0},
		{"200 tokens", "insert into t values (" + strings.Repeat("1, ", 96) + "-1)", impl.OK, 0}, {"201 tokens", "insert into t values (" + strings.Repeat("1, ", 96) + "--1)", impl.ErrMany, 313},
		{"an end behind blanks", "delete from" + strings.Repeat(" ", impl.MaxSource-11), impl.ErrSyntax, impl.MaxSource}, {"a token at the end", "delete from t" + strings.Repeat("\n", impl.MaxSource-14) + "t", impl.ErrSyntax, impl.MaxSource - 1},
	} {
		_, got, place := impl.ParseSql(c.text)
		if got != c.code || place != c.place {
			t.Errorf("%s: %d at %d, want %d at %d", c.what, got, place, c.code, c.place)
		}
		checkParsed(t, c.text)
	}
}

// Each fault counts ahead of those behind it in the chapter's order, wherever it stands.
func TestOrderOfStatementCodes(t *testing.T) {
	parens := strings.Repeat("(", 13) + "a" + strings.Repeat(")", 13)
	commas := strings.Repeat(", a", 100)
	for _, c := range []struct {
		what, text  string
		code, place int
	}{
		{"no token ahead of no statement", "select from t !", impl.ErrSyntax, 14}, {"no token behind", "! from", impl.ErrSyntax, 0}, {"many tokens ahead of no statement", "from from a" + commas, impl.ErrMany, 307}, {"no token behind many", "select a" + commas + " !", impl.ErrSyntax, 309},
		{"no statement behind too many within", "select " + parens + " from t t", impl.ErrSyntax, 42}, {"no statement ahead of too many within", "select b c, " + parens + " from t", impl.ErrSyntax, 9}, {"no end behind too many within", "select " + parens[:20], impl.ErrSyntax, 27}, {"no end at all", "delete from t where " + strings.Repeat("-", 20), impl.ErrSyntax, 40}, {"a fault within too many", "delete from t where " + strings.Repeat("(", 15) + "a a", impl.ErrSyntax, 37},
		{"too many within and no right tree", "delete from t where count(*) = " + parens, impl.ErrMany, 43}, {"too many within and aggregates behind", "delete from t where " + parens + " = count(*)", impl.ErrMany, 32}, {"no statement and no right tree", "delete from t where count(*) = sum(count(*)) = 1", impl.ErrSyntax, 45}, {"too many within twice", "select " + parens + ", " + parens + " from t", impl.ErrMany, 19},
		{"too long a text", "select from ! " + parens + strings.Repeat(" ", impl.MaxSource), impl.ErrRange, 0},
	} {
		wantFault(t, c.text, c.code, c.place)
		checkParsed(t, c.text)
	}
}

// tokenTexts are the texts of a statement's tokens.
func tokenTexts(s string) []string {
	list, _, _ := tokensByWords(s)
	var texts []string
	for i, token := range list {
		end := len(s)
		if i+1 < len(list) {
			end = list[i+1].At
		}
		texts = append(texts, strings.TrimRight(s[token.At:end], " \n"))
	}
	return texts
}

var otherTokens = []string{"a", "t", "1", "'a'", "x'00'", "(", ")", ",", ".", "*", "-", "+", "=", "<", "and", "or", "not", "is", "null", "as", "select", "from", "where", "group", "by", "order", "limit", "desc", "join", "on", "count", "sum", "values", "set", "into", "true"}

// Statements of which one token is left out, stands twice, or is exchanged for the next one or another.
func TestTextsNearStatements(t *testing.T) {
	d := &dice{state: 55}
	texts := []string{
		"select a, count(*) as n from t as x join u on x.a = u.b where not a < 1 and b is not null or c group by a, x.b order by a desc, -b + 1 limit 3",
		"insert into t values (1, 'it''s', x'0a', null, (true), -1)", "update t set a = a + 1, b = 'x' where a >= 2", "delete from t where (a or b) and c is null", "select min(a % 2), sum((b) / c) from t",
	}
	for range 6 {
		texts = append(texts, printByWords(rolledStatement(d, 5)))
	}
	count := map[int]int{}
	for _, s := range texts {
		list := tokenTexts(s)
		try := func(tokens []string) { count[checkParsed(t, strings.Join(tokens, " "))]++ }
		try(list)
		for i := range list {
			try(slices.Delete(slices.Clone(list), i, i+1))
			try(slices.Insert(slices.Clone(list), i, list[i]))
			if i > 0 {
				turned := slices.Clone(list)
				turned[i], turned[i-1] = turned[i-1], turned[i]
				try(turned)
			}
			for range 6 {
				other := otherTokens[d.below(len(otherTokens))]
				try(slices.Replace(slices.Clone(list), i, i+1, other))
				try(slices.Insert(slices.Clone(list), i, other))
			}
		}
	}
	if count[impl.OK] < 100 || count[impl.ErrSyntax] < 1000 || count[impl.ErrForm] == 0 {
		t.Error("few of a kind", count)
	}
}

func TestTextsThatAreCutOff(t *testing.T) {
	count := map[int]int{}
	for i, c := range statementTrees {
		if i > 0 && len(c.text) < 30 {
			continue
		}
		for end := range len(c.text) {
			count[checkParsed(t, c.text[:end])]++
			if end%3 == 0 {
				checkParsed(t, c.text[end:])
				checkParsed(t, c.text[:end]+" "+c.text[end:])
				checkParsed(t, c.text[:end]+c.text[end+1:])
			}
		}
	}
	if count[impl.OK] < 20 || count[impl.ErrSyntax] < 100 {
		t.Error("few of a kind", count)
	}
}

// Runs of tokens that hang together by chance.
func TestTextsOfAnyTokens(t *testing.T) {
	d := &dice{state: 56}
	for i := range 1500 {
		s := []string{"select", "delete from t where", "select a from t where", "insert into t values (", "update t set"}[i%5]
		for range 1 + d.below(8) {
			s += " " + otherTokens[d.below(len(otherTokens))]
		}
		checkParsed(t, s)
	}
}

func TestBlanksBetweenTokens(t *testing.T) {
	for _, c := range statementTrees {
		for _, blank := range []string{" ", "\n", "  ", " \n \n"} {
			s := blank + strings.Join(tokenTexts(c.text), blank) + blank
			n, got, place := impl.ParseSql(s)
			if got != impl.OK || place != 0 || !sameTree(n, c.tree) {
				t.Errorf("%q: %d at %d %s", s, got, place, drawn(n))
			}
		}
	}
	tight := "select a,b as c,count(*)from t where(a)and(b)or'x'='y'order by-a,b desc limit 3"
	n, got, _ := impl.ParseSql(tight)
	if s, _ := impl.PrintSql(n); got != impl.OK || s != "select a, b as c, count(*) from t where a and b or 'x' = 'y' order by -a, b desc limit 3" {
		t.Error(s, got)
	}
	for _, s := range []string{"select a from t\t", "select\ta from t", "select a from t\r\n", "select a from t\x00"} {
		wantFault(t, s, impl.ErrSyntax, strings.IndexAny(s, "\t\r\x00"))
	}
	wantFault(t, "selecta from t", impl.ErrSyntax, 0)
	wantFault(t, fmt.Sprint("select a from t limit ", 1, "0a"), impl.ErrSyntax, 22)
}
