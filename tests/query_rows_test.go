package tests

import (
	"fmt"
	"slices"
	"strings"
	"testing"

	"loop.example/g00208/impl"
)

// twoInts are fields of rows such as "1, 2".
func twoInts() []impl.Field { return fields("a int, b int") }

func TestProducts(t *testing.T) {
	for _, c := range []struct{ a, b, want string }{
		{"", "", ""}, {"1", "", ""}, {"", "1", ""}, {"1; 2; 3", "", ""}, {"", "1; 2; 3", ""},
		{"1", "'x'", "1, 'x'"}, {"1", "'x'; 'y'", "1, 'x'; 1, 'y'"}, {"1; 2", "'x'", "1, 'x'; 2, 'x'"}, {"1; 2", "'x'; 'y'", "1, 'x'; 1, 'y'; 2, 'x'; 2, 'y'"}, {"2; 1", "'y'; 'x'; 'y'", "2, 'y'; 2, 'x'; 2, 'y'; 1, 'y'; 1, 'x'; 1, 'y'"}, {"1; 1", "2; 2", "1, 2; 1, 2; 1, 2; 1, 2"},
		{"1, 'a'; 2, null", "true, x'00'; false, x''", "1, 'a', true, x'00'; 1, 'a', false, x''; 2, null, true, x'00'; 2, null, false, x''"},
		{"1; 2, 3; 4, 5, 6", "7; 8, 9", "1, 7; 1, 8, 9; 2, 3, 7; 2, 3, 8, 9; 4, 5, 6, 7; 4, 5, 6, 8, 9"}, {"null", "null; null", "null, null; null, null"},
	} {
		wantProduct(t, lines(c.a), lines(c.b), lines(c.want), impl.OK)
	}
	empty := [][]impl.Value{nil, {}}
	wantProduct(t, empty, lines("1; 2"), lines("1; 2; 1; 2"), impl.OK)
	wantProduct(t, lines("1; 2"), empty, lines("1; 1; 2; 2"), impl.OK)
	wantProduct(t, empty, empty, make([][]impl.Value, 4), impl.OK)
}

func TestHowGreatProductsMayBe(t *testing.T) {
	for _, c := range []struct{ a, b, code int }{
		{20, 20, impl.OK}, {400, 1, impl.OK}, {1, 400, impl.OK}, {400, 0, impl.OK}, {0, 400, impl.OK}, {200, 2, impl.OK}, {16, 25, impl.OK}, {19, 21, impl.OK}, {133, 3, impl.OK}, {399, 1, impl.OK},
		{21, 20, impl.ErrMany}, {20, 21, impl.ErrMany}, {400, 2, impl.ErrMany}, {2, 201, impl.ErrMany}, {134, 3, impl.ErrMany}, {400, 400, impl.ErrMany}, {1, 401, impl.ErrBad}, {401, 1, impl.ErrBad}, {401, 0, impl.ErrBad}, {0, 401, impl.ErrBad}, {401, 401, impl.ErrBad}, {400, 401, impl.ErrBad},
		{impl.MaxList, 0, impl.ErrBad}, {0, impl.MaxList, impl.ErrBad}, {impl.MaxList, impl.MaxList, impl.ErrBad}, {impl.MaxList + 1, 0, impl.ErrLong}, {0, impl.MaxList + 1, impl.ErrLong}, {impl.MaxList + 1, impl.MaxList + 1, impl.ErrLong}, {401, impl.MaxList + 1, impl.ErrLong}, {impl.MaxList + 1, 401, impl.ErrLong},
	} {
		a, b := manyRows(c.a, 1), manyRows(c.b, 2)
		want, code := productByWords(a, b)
		if code != c.code {
			t.Error("the words tell", code, "of", c.a, c.b)
		}
		wantProduct(t, a, b, want, c.code)
	}
	for values, code := range map[int]int{0: impl.OK, 1: impl.OK, impl.MaxCells - 1: impl.OK, impl.MaxCells: impl.OK, impl.MaxCells + 1: impl.ErrBad, 16: impl.ErrBad, impl.MaxList: impl.ErrBad, impl.MaxList + 1: impl.ErrBad} {
		rows, other := append(lines("1; 2"), make([]impl.Value, values)), lines("3, 4")
		for _, both := range [][2][][]impl.Value{{rows, other}, {other, rows}, {rows, rows}, {rows, nil}, {nil, rows}} {
			want, wanted := productByWords(both[0], both[1])
			if wanted != code {
				t.Error("the words tell", wanted, "of", values, "values")
			}
			wantProduct(t, both[0], both[1], want, code)
		}
	}
}

// A value that is not right counts ahead of too many rows, a list that is too long ahead of both.
func TestProductsOfWrongValues(t *testing.T) {
	for _, v := range wrongValues() {
		rows := append(lines("1, 2; 3"), row(num(4), v))
		for _, other := range [][][]impl.Value{nil, lines("1"), manyRows(200, 1), manyRows(400, 8)} {
			wantProduct(t, rows, other, nil, impl.ErrBad)
			wantProduct(t, other, rows, nil, impl.ErrBad)
		}
		wantProduct(t, rows, manyRows(impl.MaxList+1, 1), nil, impl.ErrLong)
		wantProduct(t, manyRows(impl.MaxList+1, 1), rows, nil, impl.ErrLong)
	}
}

func TestRolledProducts(t *testing.T) {
	d := &dice{state: 302}
	all := mixedRows(300)
	roll := func() [][]impl.Value {
		var rows [][]impl.Value
		for range d.below(30) {
			rows = append(rows, all[d.below(len(all))])
		}
		return rows
	}
	count := map[int]int{}
	for range 600 {
		a, b := roll(), roll()
		want, wanted := productByWords(a, b)
		wantProduct(t, a, b, want, wanted)
		count[wanted]++
	}
	if count[impl.OK] < 100 || count[impl.ErrMany] < 100 {
		t.Error("few of a kind", count)
	}
}

func TestFilters(t *testing.T) {
	rows := "1, 1; 2, 0; 3, null; null, 4; null, null; 1, 1"
	for _, c := range []struct{ s, want string }{
		{"true", rows}, {"false", ""}, {"null", ""}, {"a = 1", "1, 1; 1, 1"}, {"not a = 1", "2, 0; 3, null"}, {"a <> 1", "2, 0; 3, null"}, {"a is null", "null, 4; null, null"}, {"a is not null", "1, 1; 2, 0; 3, null; 1, 1"}, {"a = null", ""}, {"null = null", ""}, {"a = a", "1, 1; 2, 0; 3, null; 1, 1"}, {"a = b", "1, 1; 1, 1"}, {"a > b", "2, 0"}, {"a < b", ""},
		{"a = 1 or b = 4", "1, 1; null, 4; 1, 1"}, {"a = 1 and b = 4", ""}, {"a = 3 or null", "3, null"}, {"a = 1 and null", ""}, {"not (a = 1 and b = 1)", "2, 0; 3, null; null, 4"}, {"(a = 1) is null", "null, 4; null, null"}, {"a + b = 2", "1, 1; 2, 0; 1, 1"}, {"not null", ""}, {"null and false", ""}, {"null or true", rows}, {"b * 2 >= a", "1, 1; 1, 1"},
	} {
		wantFilter(t, expr(t, c.s), twoInts(), lines(rows), lines(c.want), impl.OK)
		wantFilter(t, expr(t, c.s), twoInts(), nil, nil, impl.OK)
		wantFilter(t, expr(t, c.s), twoInts(), [][]impl.Value{}, nil, impl.OK)
	}
	wantFilter(t, field("nothing"), fields("nothing null"), lines("null; null"), nil, impl.OK)
	wantFilter(t, field("f"), fields("f bool"), lines("true; null; false; true"), lines("true; true"), impl.OK)
	wantFilter(t, lit(flag(1)), nil, [][]impl.Value{nil, {}}, [][]impl.Value{nil, nil}, impl.OK)
	wantFilter(t, lit(flag(0)), nil, [][]impl.Value{nil, {}}, nil, impl.OK)
}

// The first row's fault counts, whichever way the others go.
func TestFaultsOfFilters(t *testing.T) {
	for _, c := range []struct {
		s, rows string
		code    int
	}{
		{"1 / a = 1", "0, 1", impl.ErrZero}, {"1 / a = 1", "1, 1; 0, 1", impl.ErrZero}, {"1 / a = 1", "null, 1; 2, 1; 0, 0; 1, 1", impl.ErrZero}, {"1 / a = 1 or b * 999999999999999999 > 0", "1, 999999999999999999; 0, 1", impl.ErrRange}, {"1 / a = 1 or b * 999999999999999999 > 0", "0, 1; 1, 999999999999999999", impl.ErrZero}, {"1 / a = 1 or b * 999999999999999999 > 0", "0, 999999999999999999", impl.ErrZero}, {"b * 999999999999999999 > 0 or 1 / a = 1", "0, 999999999999999999", impl.ErrRange}, {"true or 1 / a = 1", "0, 0", impl.ErrZero}, {"false and 1 / a = 1", "0, 0", impl.ErrZero},
	} {
		wantFilter(t, expr(t, c.s), twoInts(), lines(c.rows), nil, c.code)
	}
	wantFilter(t, expr(t, "1 / a = 1"), twoInts(), nil, nil, impl.OK)
	wantFilter(t, expr(t, "-a < 0"), twoInts(), [][]impl.Value{{num(least), num(0)}}, nil, impl.ErrRange)
	wantFilter(t, expr(t, "a < 0 and b > 0"), twoInts(), [][]impl.Value{{num(least), num(greatest)}, {num(greatest), num(least)}}, [][]impl.Value{{num(least), num(greatest)}}, impl.OK)
}

// Rows that do not fit, or are too many, are the same fault; what is of the expression's type comes behind it.
func TestOrderOfCodesOfFilters(t *testing.T) {
	long := manyRows(impl.MaxList+1, 2)
	right := lines("1, 2; 0, null")
	misfits := [][][]impl.Value{lines("1"), lines("1, 2, 3"), lines("1, 2; 3"), lines("1, 'a'"), lines("true, 1"), lines("x'', 1"), {nil}, {row(num(1), num(2)), row()}, manyRows(401, 2), manyRows(impl.MaxList, 2), {make([]impl.Value, impl.MaxList+1)}}
	for _, v := range wrongValues() {
		misfits = append(misfits, [][]impl.Value{{num(0), num(0)}, {num(1), v}}, [][]impl.Value{{v, num(0)}})
	}
	for _, c := range []struct {
		e     impl.Tree
		code  int // of rows that fit
		typed int // of the types alone
	}{
		{expr(t, "a = 1"), impl.OK, impl.OK}, {expr(t, "null"), impl.OK, impl.OK}, {expr(t, "1 / a = 1"), impl.ErrZero, impl.OK}, {expr(t, "a"), impl.ErrType, impl.OK}, {expr(t, "'a'"), impl.ErrType, impl.OK}, {expr(t, "x''"), impl.ErrType, impl.OK}, {expr(t, "1 / a"), impl.ErrType, impl.OK}, {expr(t, "-(1 / 0)"), impl.ErrType, impl.OK},
		{expr(t, "none = 1"), impl.ErrName, impl.ErrName}, {expr(t, "none"), impl.ErrName, impl.ErrName}, {expr(t, "a = 'a'"), impl.ErrType, impl.ErrType}, {expr(t, "not a"), impl.ErrType, impl.ErrType}, {expr(t, "none + count(*) = 1"), impl.ErrName, impl.ErrName}, {expr(t, "count(*) + 'a'"), impl.ErrType, impl.ErrType}, {expr(t, "sum(true) = 1"), impl.ErrType, impl.ErrType},
		{expr(t, "count(*) = 1"), impl.ErrBad, impl.ErrBad}, {expr(t, "a = 1 or max(b) = 1"), impl.ErrBad, impl.ErrBad}, {expr(t, "min(a)"), impl.ErrBad, impl.ErrBad}, {impl.Tree{}, impl.ErrBad, impl.ErrBad}, {unary("no", field("a")), impl.ErrBad, impl.ErrBad}, {item(field("a")), impl.ErrBad, impl.ErrBad}, {chain(impl.MaxDeep + 1), impl.ErrBad, impl.ErrBad}, {broad(impl.MaxTree + 1), impl.ErrBad, impl.ErrBad}, {lit(impl.Value{Kind: 9}), impl.ErrBad, impl.ErrBad},
	} {
		want, code := filterByWords(c.e, twoInts(), right)
		if code != c.code {
			t.Error("the words tell", code, "of", drawn(c.e))
		}
		wantFilter(t, c.e, twoInts(), right, want, c.code)
		for _, rows := range misfits {
			if c.typed == impl.OK {
				wantFilter(t, c.e, twoInts(), rows, nil, impl.ErrBad)
			} else {
				wantFilter(t, c.e, twoInts(), rows, nil, c.typed)
			}
		}
		wantFilter(t, c.e, twoInts(), long, nil, impl.ErrLong)
		wantFilter(t, c.e, manyFields(impl.MaxList+1), right, nil, impl.ErrLong)
		wantFilter(t, c.e, manyFields(17), right, nil, impl.ErrBad)
		wantFilter(t, c.e, manyFields(impl.MaxList), right, nil, impl.ErrBad)
		wantFilter(t, c.e, []impl.Field{{Name: "a", Type: 5}}, nil, nil, impl.ErrBad)
	}
	wantFilter(t, expr(t, "a = 1"), fields("x.a int, y.a int"), lines("1, 2"), nil, impl.ErrTwice)
	wantFilter(t, expr(t, "a = 1"), fields("x.a int, y.a int"), lines("1"), nil, impl.ErrTwice)
	wantFilter(t, expr(t, "x.a = 1"), fields("x.a int, y.a int"), lines("1, 2; 2, 1"), lines("1, 2"), impl.OK)
}

func TestHowManyRowsAFilterTakes(t *testing.T) {
	for count, code := range map[int]int{0: impl.OK, 1: impl.OK, 399: impl.OK, 400: impl.OK, 401: impl.ErrBad, impl.MaxList: impl.ErrBad, impl.MaxList + 1: impl.ErrLong} {
		rows := manyRows(count, 2)
		for _, s := range []string{"true", "a % 3 = 1", "a < 200", "b is null"} {
			want, wanted := filterByWords(expr(t, s), twoInts(), rows)
			if wanted != code {
				t.Error("the words tell", wanted, "of", count)
			}
			wantFilter(t, expr(t, s), twoInts(), rows, want, code)
		}
	}
	scope := manyFields(16)
	r := rolledLine(&dice{state: 303}, scope, 3)
	wantFilter(t, lit(flag(1)), scope, [][]impl.Value{r, r}, [][]impl.Value{r, r}, impl.OK)
}

func exprs(t *testing.T, s string) []impl.Tree {
	t.Helper()
	var list []impl.Tree
	for _, part := range strings.FieldsFunc(s, func(c rune) bool { return c == ';' }) {
		list = append(list, expr(t, part))
	}
	return roomy(list, impl.Tree{Kind: 77})
}

func TestProjections(t *testing.T) {
	for _, c := range []struct{ s, rows, want string }{
		{"a", "1, 2; 3, null; 1, 2", "1; 3; 1"}, {"b; a", "1, 2; 3, null", "2, 1; null, 3"}, {"a; a; a", "1, 2; 3, 4", "1, 1, 1; 3, 3, 3"}, {"a + b", "1, 2; 3, null; null, 1", "3; null; null"}, {"a + 1; a = 2; b is null", "1, 2; 2, null", "2, false, false; 3, true, true"}, {"7", "1, 2; 3, 4", "7; 7"}, {"null; 'x'; x'00'; true", "1, 2", "null, 'x', x'00', true"}, {"a / b; a % b", "7, 2; -7, 2", "3, 1; -3, -1"}, {"a", "", ""}, {"a; b; 1 / 0", "", ""},
	} {
		wantProject(t, exprs(t, c.s), twoInts(), lines(c.rows), lines(c.want), impl.OK)
	}
	wantProject(t, nil, twoInts(), lines("1, 2; 3, 4; 5, 6"), make([][]impl.Value, 3), impl.OK)
	wantProject(t, []impl.Tree{}, nil, [][]impl.Value{nil, {}}, make([][]impl.Value, 2), impl.OK)
	wantProject(t, nil, nil, nil, nil, impl.OK)
	wantProject(t, exprs(t, "1; 'a'"), nil, [][]impl.Value{nil, {}}, lines("1, 'a'; 1, 'a'"), impl.OK)
	wantProject(t, exprs(t, "a; -(a + 1); b"), twoInts(), [][]impl.Value{{num(least), num(greatest)}}, [][]impl.Value{{num(least), num(greatest), num(greatest)}}, impl.OK)
}

// Faults are told by rows; of one row by the expressions' order.
func TestFaultsOfProjections(t *testing.T) {
	for _, c := range []struct {
		s, rows string
		code    int
	}{
		{"1 / a", "0, 1", impl.ErrZero}, {"b; 1 / a", "1, 1; 0, 1", impl.ErrZero}, {"1 / a; b * 999999999999999999", "0, 999999999999999999", impl.ErrZero}, {"b * 999999999999999999; 1 / a", "0, 999999999999999999", impl.ErrRange}, {"1 / a; b * 999999999999999999", "1, 999999999999999999; 0, 1", impl.ErrRange}, {"b * 999999999999999999; 1 / a", "0, 1; 1, 999999999999999999", impl.ErrZero}, {"a; b; 1 / 0", "1, 1", impl.ErrZero},
	} {
		wantProject(t, exprs(t, c.s), twoInts(), lines(c.rows), nil, c.code)
	}
}

// misfitsOfTwoInts are rows of which one does not fit two ints; some are more than may be, too.
func misfitsOfTwoInts() [][][]impl.Value {
	misfits := [][][]impl.Value{lines("1"), lines("1, 2, 3"), lines("1, 2; 0"), lines("1, 'a'"), lines("true, 1"), {nil}, {row(num(1), num(2)), row()}, append(manyRows(400, 2), row(num(1))), manyRows(401, 1), append(manyRows(impl.MaxList-1, 2), nil), {make([]impl.Value, impl.MaxList+1)}}
	for _, v := range wrongValues() {
		misfits = append(misfits, [][]impl.Value{{num(0), num(0)}, {num(1), v}}, [][]impl.Value{{v, num(0)}})
	}
	return misfits
}

// Codes come by the expressions' order, each with its type ahead of an aggregate and of rows that do not fit; then how many rows and expressions there are.
func TestOrderOfCodesOfProjections(t *testing.T) {
	right := lines("1, 2; 0, 3")
	for _, c := range []struct {
		s            string
		code         int // of rows that fit
		misfit, many int // of rows that do not fit, and of too many that do
	}{
		{"a; b", impl.OK, impl.ErrBad, impl.ErrBad}, {"a; 1 / a", impl.ErrZero, impl.ErrBad, impl.ErrBad}, {"none", impl.ErrName, impl.ErrName, impl.ErrName}, {"not a; none", impl.ErrType, impl.ErrType, impl.ErrType}, {"none; not a", impl.ErrName, impl.ErrName, impl.ErrName}, {"1; none", impl.ErrName, impl.ErrBad, impl.ErrName}, {"a; none; not a", impl.ErrName, impl.ErrBad, impl.ErrName}, {"a; not a; none", impl.ErrType, impl.ErrBad, impl.ErrType}, {"a; b; a; b; none", impl.ErrName, impl.ErrBad, impl.ErrName},
		{"count(*)", impl.ErrBad, impl.ErrBad, impl.ErrBad}, {"a; max(b)", impl.ErrBad, impl.ErrBad, impl.ErrBad}, {"count(*); none", impl.ErrBad, impl.ErrBad, impl.ErrBad}, {"a; count(*); none", impl.ErrBad, impl.ErrBad, impl.ErrBad}, {"none; count(*)", impl.ErrName, impl.ErrName, impl.ErrName}, {"a; none; count(*)", impl.ErrName, impl.ErrBad, impl.ErrName}, {"count(*) + none; not a", impl.ErrName, impl.ErrName, impl.ErrName}, {"count(none)", impl.ErrName, impl.ErrName, impl.ErrName}, {"1 / 0; count(*)", impl.ErrBad, impl.ErrBad, impl.ErrBad}, {"1 / 0; none", impl.ErrName, impl.ErrBad, impl.ErrName}, {"sum(true); none", impl.ErrType, impl.ErrType, impl.ErrType},
	} {
		want, code := projectByWords(exprs(t, c.s), twoInts(), right)
		if code != c.code {
			t.Error("the words tell", code, "of", c.s)
		}
		wantProject(t, exprs(t, c.s), twoInts(), right, want, c.code)
		for _, rows := range misfitsOfTwoInts() {
			wantProject(t, exprs(t, c.s), twoInts(), rows, nil, c.misfit)
		}
		for _, rows := range [][][]impl.Value{manyRows(401, 2), manyRows(impl.MaxList, 2)} {
			wantProject(t, exprs(t, c.s), twoInts(), rows, nil, c.many)
		}
		wantProject(t, exprs(t, c.s), twoInts(), manyRows(impl.MaxList+1, 2), nil, impl.ErrLong)
		wantProject(t, exprs(t, c.s), twoInts(), manyRows(impl.MaxList+1, 1), nil, impl.ErrLong)
		wantProject(t, exprs(t, c.s), manyFields(impl.MaxList+1), right, nil, impl.ErrLong)
		wantProject(t, exprs(t, c.s), manyFields(17), right, nil, impl.ErrBad)
		wantProject(t, slices.Concat(exprs(t, c.s), make([]impl.Tree, impl.MaxList)), twoInts(), right, nil, impl.ErrLong)
	}
	wantProject(t, []impl.Tree{{}, field("none")}, twoInts(), right, nil, impl.ErrBad)
	wantProject(t, []impl.Tree{field("none"), {}}, twoInts(), right, nil, impl.ErrName)
	wantProject(t, []impl.Tree{broad(impl.MaxTree + 1)}, fields("i int"), lines("1"), nil, impl.ErrBad)
	wantProject(t, exprs(t, "x.a; a"), fields("x.a int, y.a int"), right, nil, impl.ErrTwice)
	wantProject(t, exprs(t, "x.a; a"), fields("x.a int, y.a int"), lines("1"), nil, impl.ErrBad)
	wantProject(t, exprs(t, "a; x.a"), fields("x.a int, y.a int"), lines("1"), nil, impl.ErrTwice)
}

// Without an expression nothing asks whether rows fit, or of the fields: just how many rows there are counts.
func TestProjectionsOfNoExpression(t *testing.T) {
	scopes := [][]impl.Field{nil, twoInts(), manyFields(16), manyFields(17), manyFields(impl.MaxList), {{Name: "a", Type: 5}}, {{Name: ""}}}
	for _, scope := range scopes {
		for _, list := range [][]impl.Tree{nil, {}, exprs(t, "")} {
			for _, rows := range append(misfitsOfTwoInts(), nil, lines("1, 2; 3, 4"), manyRows(399, 2), manyRows(400, 3), manyRows(401, 2), manyRows(401, 0), manyRows(impl.MaxList, 2)) {
				if len(rows) <= 400 {
					wantProject(t, list, scope, rows, make([][]impl.Value, len(rows)), impl.OK)
				} else {
					wantProject(t, list, scope, rows, nil, impl.ErrBad)
				}
			}
			wantProject(t, list, scope, manyRows(impl.MaxList+1, 2), nil, impl.ErrLong)
		}
	}
	for _, rows := range [][][]impl.Value{nil, lines("1, 2"), lines("1"), manyRows(401, 1)} {
		wantProject(t, nil, manyFields(impl.MaxList+1), rows, nil, impl.ErrLong)
	}
}

func TestHowManyExpressionsAProjectionTakes(t *testing.T) {
	for count, code := range map[int]int{0: impl.OK, 1: impl.OK, 17: impl.OK, 119: impl.OK, 120: impl.OK, 121: impl.ErrBad, impl.MaxList: impl.ErrBad, impl.MaxList + 1: impl.ErrLong} {
		list := slices.Repeat([]impl.Tree{field("a")}, count)
		for _, rows := range [][][]impl.Value{nil, lines("1, 2"), manyRows(400, 2)} {
			want, wanted := projectByWords(list, twoInts(), rows)
			if wanted != code {
				t.Error("the words tell", wanted, "of", count)
			}
			wantProject(t, list, twoInts(), rows, want, code)
		}
		if count > 120 && count <= impl.MaxList {
			late := append(slices.Clone(list[:count-1]), field("none"))
			wantProject(t, late, twoInts(), nil, nil, impl.ErrName)
			wantProject(t, late, twoInts(), manyRows(401, 2), nil, impl.ErrName)
			wantProject(t, late, twoInts(), lines("1, 2; 3"), nil, impl.ErrBad)
		}
	}
	for count, code := range map[int]int{399: impl.OK, 400: impl.OK, 401: impl.ErrBad, impl.MaxList: impl.ErrBad, impl.MaxList + 1: impl.ErrLong} {
		got, told := impl.ProjectRows([]impl.Tree{field("a")}, twoInts(), manyRows(count, 2))
		var want [][]impl.Value
		if code == impl.OK {
			want = manyRows(count, 1)
		}
		wantRows(t, fmt.Sprint(count, " rows"), got, told, want, code)
	}
}

// Rolled expressions of rolled rows; what is projected has as many rows as there were, what is left by a filter stands in its order.
func TestRolledFiltersAndProjections(t *testing.T) {
	count := map[int]int{}
	for i, scope := range someScopes() {
		for _, slip := range []int{0, 0, 25} {
			r := &roller{dice: dice{state: uint64(304 + i)}, scope: scope, slip: slip}
			for range 120 {
				var rows [][]impl.Value
				for range r.below(6) {
					rows = append(rows, rolledLine(&r.dice, scope, 4))
				}
				if r.below(8) == 0 {
					rows = append(rows, manyRows(1, len(scope)+1)...) // it does not fit
				}
				var list []impl.Tree
				for range r.below(4) {
					list = append(list, r.expr(r.kind(), 1+r.below(8), r.below(10) == 0))
				}
				want, wanted := projectByWords(list, scope, rows)
				wantProject(t, list, scope, rows, want, wanted)
				count[wanted]++
				if wanted == impl.OK && len(want) != len(rows) {
					t.Error("other rows are projected")
				}
				e := r.expr(impl.VaBool, 1+r.below(8), r.below(10) == 0)
				want, wanted = filterByWords(e, scope, rows)
				wantFilter(t, e, scope, rows, want, wanted)
				count[wanted]++
			}
		}
	}
	for _, code := range []int{impl.OK, impl.ErrBad, impl.ErrName, impl.ErrType, impl.ErrRange, impl.ErrZero} {
		if count[code] < 15 {
			t.Error("few of", impl.CodeWord(code), count)
		}
	}
}
