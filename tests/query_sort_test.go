package tests

import (
	"fmt"
	"slices"
	"testing"

	"loop.example/g00208/impl"
)

// flags are of a text such as "ud": up and down.
func flags(words string) []bool {
	var list []bool
	for i := range len(words) {
		list = append(list, words[i] == 'd')
	}
	return roomy(list, true)
}

func TestSortedRows(t *testing.T) {
	for _, c := range []struct{ keys, down, rows, want string }{
		{"", "", "", ""}, {"", "u", "", ""}, {"", "dud", "", ""}, {"1", "u", "'a'", "'a'"}, {"1", "d", "'a'", "'a'"},
		{"2; 1; 3", "u", "'a'; 'b'; 'c'", "'b'; 'a'; 'c'"}, {"2; 1; 3", "d", "'a'; 'b'; 'c'", "'c'; 'a'; 'b'"}, {"1; 1; 1", "u", "'c'; 'a'; 'b'", "'c'; 'a'; 'b'"}, {"1; 1; 1", "d", "'c'; 'a'; 'b'", "'c'; 'a'; 'b'"}, {"2; 1; 2; 1", "u", "'a'; 'b'; 'c'; 'd'", "'b'; 'd'; 'a'; 'c'"}, {"2; 1; 2; 1", "d", "'a'; 'b'; 'c'; 'd'", "'a'; 'c'; 'b'; 'd'"},
		{"null; 1; false; 'a'; x''; true; -1; null", "u", "1; 2; 3; 4; 5; 6; 7; 8", "1; 8; 3; 6; 7; 2; 4; 5"}, {"null; 1; false; 'a'; x''; true; -1; null", "d", "1; 2; 3; 4; 5; 6; 7; 8", "5; 4; 2; 7; 6; 3; 1; 8"},
		{"1, 2; 1, 1; 0, 9", "uu", "'a'; 'b'; 'c'", "'c'; 'b'; 'a'"}, {"1, 2; 1, 1; 0, 9", "ud", "'a'; 'b'; 'c'", "'c'; 'a'; 'b'"}, {"1, 2; 1, 1; 0, 9", "du", "'a'; 'b'; 'c'", "'b'; 'a'; 'c'"}, {"1, 2; 1, 1; 0, 9", "dd", "'a'; 'b'; 'c'", "'a'; 'b'; 'c'"}, {"1, null; 1, 0; null, 1; 1, null", "ud", "1; 2; 3; 4", "3; 2; 1; 4"}, {"1, null; 1, 0; null, 1; 1, null", "du", "1; 2; 3; 4", "1; 4; 2; 3"},
		{"1, 1, 2; 1, 1, 1; 1, 0, 3; 0, 5, 5", "udu", "1; 2; 3; 4", "4; 2; 1; 3"}, {"'b'; 'ab'; 'a'; ''; 'B'", "u", "1; 2; 3; 4; 5", "4; 5; 3; 2; 1"}, {"'b'; 'ab'; 'a'; ''; 'B'", "d", "1; 2; 3; 4; 5", "1; 2; 3; 5; 4"}, {"10; 9; -10; -9", "u", "1; 2; 3; 4", "3; 4; 2; 1"},
		{"3; 1; 2", "u", "1, 'x'; 2; 3, null, true", "2; 3, null, true; 1, 'x'"},
	} {
		wantSorted(t, lines(c.keys), flags(c.down), lines(c.rows), lines(c.want), impl.OK)
	}
	none := make([][]impl.Value, 3)
	wantSorted(t, none, nil, lines("3; 1; 2"), lines("3; 1; 2"), impl.OK)
	wantSorted(t, [][]impl.Value{{}, nil, {}}, []bool{}, lines("3; 1; 2"), lines("3; 1; 2"), impl.OK)
	wantSorted(t, lines("3; 1; 2"), flags("u"), none, none, impl.OK)
	wantSorted(t, [][]impl.Value{{num(greatest)}, {num(0)}, {num(least)}}, flags("u"), lines("1; 2; 3"), lines("3; 2; 1"), impl.OK)
	wantSorted(t, [][]impl.Value{{num(least)}, {num(0)}, {num(greatest)}}, flags("d"), lines("1; 2; 3"), lines("3; 2; 1"), impl.OK)
}

func TestHowManyRowsAreSorted(t *testing.T) {
	for count, code := range map[int]int{399: impl.OK, 400: impl.OK, 401: impl.ErrBad, impl.MaxList: impl.ErrBad, impl.MaxList + 1: impl.ErrLong} {
		rows := manyRows(count, 1)
		back := slices.Clone(rows)
		slices.Reverse(back)
		if code != impl.OK {
			back = nil
		}
		wantSorted(t, rows, flags("d"), rows, back, code)
		wantSorted(t, rows, nil, rows, nil, max(code, map[bool]int{true: impl.ErrCount}[code == impl.OK]))
	}
	for values, code := range map[int]int{1: impl.OK, 8: impl.OK, 9: impl.OK, 15: impl.OK, 16: impl.OK, 17: impl.ErrBad, 120: impl.ErrBad, impl.MaxList: impl.ErrBad} {
		long, short, down := manyRows(3, values), lines("1; 2; 3"), make([]bool, values)
		down[0] = true
		want, turned := lines("3; 2; 1"), slices.Clone(long)
		slices.Reverse(turned)
		if code != impl.OK {
			want, turned = nil, nil
		}
		wantSorted(t, long, down, short, want, code)
		wantSorted(t, short, flags("d"), long, turned, code)
		if values > 16 {
			wantSorted(t, short, down, short, nil, impl.ErrBad) // too many flags, and keys of another length
			wantSorted(t, nil, down, nil, nil, impl.ErrBad)
		}
	}
}

// What is not right counts ahead of a key of another length, a list that is too long ahead of all.
func TestOrderOfCodesOfSorts(t *testing.T) {
	rows := lines("1; 2; 3")
	for _, c := range []struct {
		keys [][]impl.Value
		down []bool
		rows [][]impl.Value
		code int
	}{
		{lines("1; 2"), flags("u"), rows, impl.ErrBad}, {lines("1; 2; 3; 4"), flags("u"), rows, impl.ErrBad}, {nil, flags("u"), rows, impl.ErrBad}, {rows, flags("u"), nil, impl.ErrBad}, {nil, nil, rows, impl.ErrBad}, {lines("1; 2"), nil, rows, impl.ErrBad},
		{rows, nil, rows, impl.ErrCount}, {rows, flags("uu"), rows, impl.ErrCount}, {lines("1; 2, 3; 4"), flags("u"), rows, impl.ErrCount}, {lines("1; 2, 3; 4"), flags("uu"), rows, impl.ErrCount}, {lines("1, 1; 2, 2; 3"), flags("ud"), rows, impl.ErrCount}, {make([][]impl.Value, 3), flags("u"), rows, impl.ErrCount}, {[][]impl.Value{{num(1)}, {num(2)}, nil}, flags("u"), rows, impl.ErrCount}, {rows, make([]bool, 16), rows, impl.ErrCount},
		{rows, make([]bool, 17), rows, impl.ErrBad}, {rows, make([]bool, impl.MaxList), rows, impl.ErrBad}, {rows, make([]bool, impl.MaxList+1), rows, impl.ErrLong}, {manyRows(impl.MaxList+1, 1), flags("u"), rows, impl.ErrLong}, {rows, flags("u"), manyRows(impl.MaxList+1, 1), impl.ErrLong}, {nil, make([]bool, impl.MaxList+1), rows, impl.ErrLong}, {manyRows(401, 1), make([]bool, impl.MaxList+1), nil, impl.ErrLong}, {manyRows(401, 2), flags("u"), manyRows(401, 1), impl.ErrBad}, {manyRows(400, 2), flags("u"), manyRows(400, 1), impl.ErrCount},
	} {
		if _, code := sortByWords(c.keys, c.down, c.rows); code != c.code {
			t.Error("the words tell", code, "not", c.code)
		}
		wantSorted(t, c.keys, c.down, c.rows, nil, c.code)
	}
	for _, v := range wrongValues() {
		wantSorted(t, append(lines("1; 2"), row(v)), flags("u"), rows, nil, impl.ErrBad)
		wantSorted(t, append(lines("1; 2"), row(v)), flags("uu"), rows, nil, impl.ErrBad)
		wantSorted(t, rows, flags("u"), append(lines("1; 2"), row(v)), nil, impl.ErrBad)
		wantSorted(t, rows, nil, [][]impl.Value{{v}, nil, nil}, nil, impl.ErrBad)
	}
}

func TestGroups(t *testing.T) {
	rows := "2, 'b', true; 1, 'a', true; 2, 'a', false; null, 'a', true; 1, 'a', null; 2, 'b', true"
	for _, c := range []struct {
		columns []int
		want    []string
	}{
		{nil, []string{rows}}, {[]int{}, []string{rows}},
		{[]int{0}, []string{"null, 'a', true", "1, 'a', true; 1, 'a', null", "2, 'b', true; 2, 'a', false; 2, 'b', true"}},
		{[]int{1}, []string{"1, 'a', true; 2, 'a', false; null, 'a', true; 1, 'a', null", "2, 'b', true; 2, 'b', true"}},
		{[]int{2}, []string{"1, 'a', null", "2, 'a', false", "2, 'b', true; 1, 'a', true; null, 'a', true; 2, 'b', true"}},
		{[]int{0, 1}, []string{"null, 'a', true", "1, 'a', true; 1, 'a', null", "2, 'a', false", "2, 'b', true; 2, 'b', true"}},
		{[]int{1, 0}, []string{"null, 'a', true", "1, 'a', true; 1, 'a', null", "2, 'a', false", "2, 'b', true; 2, 'b', true"}},
		{[]int{1, 2}, []string{"1, 'a', null", "2, 'a', false", "1, 'a', true; null, 'a', true", "2, 'b', true; 2, 'b', true"}},
		{[]int{2, 1, 0}, []string{"1, 'a', null", "2, 'a', false", "null, 'a', true", "1, 'a', true", "2, 'b', true; 2, 'b', true"}},
		{[]int{0, 0, 0}, []string{"null, 'a', true", "1, 'a', true; 1, 'a', null", "2, 'b', true; 2, 'a', false; 2, 'b', true"}},
	} {
		var want [][][]impl.Value
		for _, group := range c.want {
			want = append(want, lines(group))
		}
		wantGroups(t, c.columns, lines(rows), want, impl.OK)
	}
	mixed := lines("x'00'; 'a'; 5; true; null; -5; false; ''; 5; null")
	wantGroups(t, []int{0}, mixed, [][][]impl.Value{lines("null; null"), lines("false"), lines("true"), lines("-5"), lines("5; 5"), lines("''"), lines("'a'"), lines("x'00'")}, impl.OK)
	wantGroups(t, nil, [][]impl.Value{nil, {}, {num(1)}}, [][][]impl.Value{{nil, nil, {num(1)}}}, impl.OK)
	wantGroups(t, []int{0}, lines("2, 'x'; 1; 2"), [][][]impl.Value{lines("1"), lines("2, 'x'; 2")}, impl.OK)
	wantGroups(t, []int{0}, [][]impl.Value{{num(greatest)}, {num(least)}}, [][][]impl.Value{{{num(least)}}, {{num(greatest)}}}, impl.OK)
}

// Of no rows there are no groups, whichever columns are asked for.
func TestGroupsOfNothing(t *testing.T) {
	for _, columns := range [][]int{nil, {}, {0}, {0, 1}, {-1}, {16}, {least, greatest}, make([]int, impl.MaxList)} {
		wantGroups(t, columns, nil, nil, impl.OK)
		wantGroups(t, columns, [][]impl.Value{}, nil, impl.OK)
	}
	wantGroups(t, make([]int, impl.MaxList+1), nil, nil, impl.ErrLong)
}

func TestColumnsThatRowsDoNotHave(t *testing.T) {
	rows := lines("1, 2, 3; 4, 5; 6, 7, 8")
	for at, code := range map[int]int{least: impl.ErrRange, -2: impl.ErrRange, -1: impl.ErrRange, 0: impl.OK, 1: impl.OK, 2: impl.ErrRange, 3: impl.ErrRange, 16: impl.ErrRange, 1 << 32: impl.ErrRange, greatest: impl.ErrRange} {
		for _, columns := range [][]int{{at}, {0, at}, {at, 1}, {0, 1, at, 0}} {
			want, wanted := groupByWords(columns, rows)
			if wanted != code {
				t.Error("the words tell", wanted, "of", at)
			}
			wantGroups(t, columns, rows, want, code)
			if code != impl.OK {
				wantGroups(t, columns, append(slices.Clone(rows), row(impl.Value{Kind: 9})), nil, impl.ErrBad)
				wantGroups(t, columns, manyRows(401, 1), nil, impl.ErrBad)
				wantGroups(t, columns, manyRows(impl.MaxList+1, 1), nil, impl.ErrLong)
			}
		}
	}
	wantGroups(t, []int{0}, [][]impl.Value{{num(1)}, nil}, nil, impl.ErrRange)
	wantGroups(t, []int{15}, manyRows(2, 16), [][][]impl.Value{manyRows(2, 16)}, impl.OK)
	wantGroups(t, []int{16}, manyRows(2, 16), nil, impl.ErrRange)
	wantGroups(t, slices.Repeat([]int{0}, impl.MaxList), lines("2; 1"), [][][]impl.Value{lines("1"), lines("2")}, impl.OK)
	wantGroups(t, append(make([]int, impl.MaxList-1), 1), lines("2; 1"), nil, impl.ErrRange)
	wantGroups(t, slices.Repeat([]int{0}, impl.MaxList+1), lines("2; 1"), nil, impl.ErrLong)
	wantGroups(t, slices.Repeat([]int{-1}, impl.MaxList+1), manyRows(401, 1), nil, impl.ErrLong)
}

func TestHowManyRowsAreGrouped(t *testing.T) {
	for count, code := range map[int]int{399: impl.OK, 400: impl.OK, 401: impl.ErrBad, impl.MaxList: impl.ErrBad, impl.MaxList + 1: impl.ErrLong} {
		rows := manyRows(count, 2)
		for _, columns := range [][]int{nil, {0}, {1}} {
			want, wanted := groupByWords(columns, rows)
			if wanted != code {
				t.Error("the words tell", wanted, "of", count)
			}
			wantGroups(t, columns, rows, want, code)
		}
	}
	for values, code := range map[int]int{8: impl.OK, 9: impl.OK, 16: impl.OK, 17: impl.ErrBad, impl.MaxList: impl.ErrBad, impl.MaxList + 1: impl.ErrBad} {
		rows := append(lines("1"), manyRows(1, values)[0])
		want, _ := groupByWords([]int{0}, rows)
		wantGroups(t, []int{0}, rows, want, code)
	}
	for _, v := range wrongValues() {
		wantGroups(t, []int{0}, append(lines("1; 2"), row(num(1), v)), nil, impl.ErrBad)
		wantGroups(t, nil, append(lines("1; 2"), row(v)), nil, impl.ErrBad)
	}
}

func TestBags(t *testing.T) {
	for _, c := range []struct {
		a, b string
		want bool
	}{
		{"", "", true}, {"1", "1", true}, {"1", "", false}, {"", "1", false}, {"1; 2", "2; 1", true}, {"1; 2; 3", "3; 1; 2", true}, {"1; 1; 2", "1; 2; 1", true}, {"1; 1; 2", "1; 2; 2", false}, {"1; 1", "1", false}, {"1; 2", "1; 2; 2", false}, {"1; 2", "1; 3", false}, {"1, 2", "2, 1", false}, {"1, 2", "1; 2", false}, {"1, 2; 3", "1; 2, 3", false}, {"1; 1, 2", "1, 2; 1", true}, {"1", "1, null", false}, {"null", "null", true}, {"null; null", "null", false}, {"null", "false", false}, {"0", "false", false}, {"1", "'1'", false}, {"'a'", "x'61'", false}, {"'a', null; null, 'a'", "null, 'a'; 'a', null", true}, {"true; false; true", "true; true; false", true}, {"true; false; true", "true; false; false", false}, {"'a'; 'b'", "'ab'; ''", false},
	} {
		wantBag(t, lines(c.a), lines(c.b), c.want, impl.OK)
		wantBag(t, lines(c.b), lines(c.a), c.want, impl.OK)
	}
	wantBag(t, [][]impl.Value{nil, {}}, [][]impl.Value{{}, nil}, true, impl.OK)
	wantBag(t, [][]impl.Value{nil, {}}, [][]impl.Value{{}}, false, impl.OK)
	wantBag(t, [][]impl.Value{nil}, nil, false, impl.OK)
	wantBag(t, [][]impl.Value{{num(least)}, {num(greatest)}}, [][]impl.Value{{num(greatest)}, {num(least)}}, true, impl.OK)
}

func TestBagsThatAreNotRight(t *testing.T) {
	for count, code := range map[int]int{399: impl.OK, 400: impl.OK, 401: impl.ErrBad, impl.MaxList: impl.ErrBad, impl.MaxList + 1: impl.ErrLong} {
		rows, back := manyRows(count, 2), manyRows(count, 2)
		slices.Reverse(back)
		wantBag(t, rows, back, code == impl.OK, code)
		wantBag(t, rows, nil, false, code)
		wantBag(t, nil, rows, false, code)
		wantBag(t, rows, [][]impl.Value{{{Kind: 9}}}, false, max(code, impl.ErrBad))
	}
	for values, code := range map[int]int{8: impl.OK, 9: impl.OK, 16: impl.OK, 17: impl.ErrBad, impl.MaxList: impl.ErrBad, impl.MaxList + 1: impl.ErrBad} {
		rows := append(lines("1"), manyRows(1, values)[0])
		wantBag(t, rows, rows, code == impl.OK, code)
		wantBag(t, rows, nil, false, code)
		wantBag(t, lines("1"), rows, false, code)
	}
	for _, v := range wrongValues() {
		rows := append(lines("1; 2"), row(num(1), v))
		wantBag(t, rows, rows, false, impl.ErrBad)
		wantBag(t, rows, lines("1"), false, impl.ErrBad)
		wantBag(t, nil, rows, false, impl.ErrBad)
		wantBag(t, rows, manyRows(impl.MaxList+1, 1), false, impl.ErrLong)
	}
}

// rolledRows have a few values, many of them alike.
func rolledRows(d *dice, count, values int) [][]impl.Value {
	pool := row(impl.Value{}, flag(0), flag(1), num(-1), num(0), num(1), num(least), num(greatest), text(""), text("a"), raw(""), raw("a"))
	some := 1 + d.below(len(pool))
	var rows [][]impl.Value
	for range count {
		r := row()
		for range values {
			r = append(r, pool[d.below(some)])
		}
		rows = append(rows, r)
	}
	return rows
}

// Sorted rows are the same rows; sorted twice they stay; they stand by their keys, alike ones as they stood.
func TestRolledSorts(t *testing.T) {
	d := &dice{state: 310}
	for range 1500 {
		count, values := d.below(14), d.below(4)
		keys, down := rolledRows(d, count, values), make([]bool, values)
		for i := range down {
			down[i] = d.below(2) == 0
		}
		var rows [][]impl.Value
		for i, key := range keys { // a row tells its key, and where it stood
			rows = append(rows, append(slices.Clone(key), num(i)))
		}
		want, wanted := sortByWords(keys, down, rows)
		wantSorted(t, keys, down, rows, want, wanted)
		sorted, _ := impl.SortRows(keys, down, rows)
		wantBag(t, sorted, rows, true, impl.OK)
		var again [][]impl.Value
		for i, r := range sorted {
			again = append(again, r[:values])
			if i > 0 && aheadByWords(r, sorted[i-1], down) {
				t.Fatalf("%s is not sorted", shown(sorted))
			}
		}
		wantSorted(t, again, down, sorted, sorted, impl.OK)
		wantSorted(t, keys, down, keys, again, impl.OK)
	}
}

// Groups part rows: each row is in one of them, as often as it was there.
func TestRolledGroups(t *testing.T) {
	d := &dice{state: 311}
	for range 1500 {
		values := 1 + d.below(4)
		rows := rolledRows(d, d.below(14), values)
		var columns []int
		for range d.below(4) {
			columns = append(columns, d.below(values))
		}
		want, wanted := groupByWords(columns, rows)
		wantGroups(t, columns, rows, want, wanted)
		groups, _ := impl.GroupRows(columns, rows)
		wantBag(t, slices.Concat(groups...), rows, true, impl.OK)
		for i, group := range groups {
			if len(group) == 0 {
				t.Fatal("a group of nothing")
			}
			for _, r := range group {
				if orderBy(r, group[0], columns) != 0 {
					t.Fatalf("%v are no group by %v", group, columns)
				}
			}
			if i > 0 && orderBy(groups[i-1][0], group[0], columns) >= 0 {
				t.Fatalf("%v: groups do not rise by %v", groups, columns)
			}
		}
		if len(columns) == 0 && len(groups) != min(1, len(rows)) {
			t.Fatal("no columns, but", len(groups), "groups")
		}
	}
}

func TestRolledBags(t *testing.T) {
	d := &dice{state: 312}
	count := map[bool]int{}
	for range 2000 {
		a := rolledRows(d, d.below(6), 1+d.below(2))
		b := slices.Clone(a)
		for i := range b {
			at := i + d.below(len(b)-i)
			b[i], b[at] = b[at], b[i]
		}
		wantBag(t, a, b, true, impl.OK)
		if len(b) > 0 && d.below(2) == 0 {
			b[d.below(len(b))] = b[d.below(len(b))]
		} else {
			b = rolledRows(d, len(a), 1)
		}
		want, wanted := bagByWords(a, b)
		wantBag(t, a, b, want, wanted)
		wantBag(t, b, a, want, wanted)
		count[want]++
	}
	if count[true] < 200 || count[false] < 200 {
		t.Error("few of a kind", fmt.Sprint(count))
	}
}
