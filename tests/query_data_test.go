package tests

import (
	"fmt"
	"math"
	"slices"
	"strings"
	"testing"

	"loop.example/g00208/impl"
)

// askedTables are what most queries here are over.
func askedTables() []impl.Table {
	return roomyTables([]impl.Table{
		table("cases", "id int, status text null, n int null", 1, index("bystatus", 1)),
		table("notes", "about int, at int, what text", 2),
		table("one", "x int", 1),
	})
}

// dataOf is of words such as "one: 1; 2".
func dataOf(words ...string) []impl.Data {
	var list []impl.Data
	for _, w := range words {
		name, rows, _ := strings.Cut(w, ":")
		list = append(list, impl.Data{Name: name, Rows: lines(rows)})
	}
	return roomy(list, impl.Data{Name: "behind"})
}

// askedData are right of askedTables.
func askedData() []impl.Data {
	return dataOf(
		"cases: 1, 'open', 5; 2, 'done', 0; 3, null, 7; 4, 'open', 2; 6, 'open', null",
		"notes: 1, 1, 'a'; 1, 2, 'b'; 4, 1, 'c'; 5, 0, 'd'",
		"one:")
}

func wantData(t *testing.T, what string, list []impl.Table, data []impl.Data, want bool) {
	t.Helper()
	if got := impl.DataOK(list, data); got != want {
		t.Errorf("DataOK: %.200s: %v", what, got)
	}
	if words := dataByWords(list, data); words != want {
		t.Errorf("%.200s: by the words %v", what, words)
	}
}

func emptyData(list []impl.Table) []impl.Data {
	var data []impl.Data
	for _, x := range list {
		data = append(data, impl.Data{Name: x.Name})
	}
	return data
}

func TestDataThatAreRight(t *testing.T) {
	wantData(t, "ordinary ones", askedTables(), askedData(), true)
	wantData(t, "nothing", nil, nil, true)
	wantData(t, "nothing", []impl.Table{}, []impl.Data{}, true)
	for _, list := range rightCatalogs() {
		wantData(t, "no rows", list, emptyData(list), true)
	}
	for _, list := range wrongCatalogs() {
		wantData(t, fmt.Sprintf("catalog %.150v", list), list, emptyData(list), false)
	}
}

func TestDataOfTablesTooFewOrTooMany(t *testing.T) {
	list, data := askedTables(), askedData()
	for i := range data {
		wantData(t, "one too few", list, slices.Delete(slices.Clone(data), i, i+1), false)
		wantData(t, "a table too few", slices.Delete(slices.Clone(list), i, i+1), data, false)
		wantData(t, "just these", slices.Delete(slices.Clone(list), i, i+1), slices.Delete(slices.Clone(data), i, i+1), true)
		wantData(t, "one twice", list, slices.Insert(slices.Clone(data), i, data[i]), false)
		wantData(t, "an empty one too many", list, slices.Insert(slices.Clone(data), i, impl.Data{}), false)
		for k := range i {
			turned := slices.Clone(data)
			turned[i], turned[k] = turned[k], turned[i]
			wantData(t, "in another order", list, turned, false)
			empty := emptyData(list)
			empty[i], empty[k] = empty[k], empty[i]
			wantData(t, "in another order, empty", list, empty, false)
		}
		for _, name := range []string{"", "other", strings.ToUpper(data[i].Name), data[i].Name + " ", data[i].Name[1:], data[(i+1)%len(data)].Name, strings.Repeat("n", impl.MaxText+1)} {
			named := slices.Clone(data)
			named[i].Name = name
			wantData(t, "of another name", list, named, false)
		}
	}
	wantData(t, "none", list, nil, false)
	wantData(t, "no tables", nil, data, false)
	wantData(t, "one more behind", list, append(slices.Clone(data), impl.Data{Name: "zero"}), false)
	for _, size := range []int{impl.MaxList, impl.MaxList + 1} {
		wantData(t, "many data", list, make([]impl.Data, size), false)
		wantData(t, "many data of nothing", nil, make([]impl.Data, size), false)
		wantData(t, "many tables", manyTables(size), emptyData(manyTables(size)), false)
	}
}

func TestHowManyRowsDataMayHave(t *testing.T) {
	list := []impl.Table{table("a", "x int", 1), table("b", "x int, y text null", 1), table("c", "x int, y int null, z bool null", 1)}
	for i := range list {
		for count, want := range map[int]bool{0: true, 1: true, impl.MaxRows - 1: true, impl.MaxRows: true, impl.MaxRows + 1: false, impl.MaxRows + 7: false, impl.MaxList: false, impl.MaxList + 1: false} {
			data := emptyData(list)
			data[i].Rows = manyRows(count, len(list[i].Columns))
			wantData(t, fmt.Sprint(count, " rows of table ", i), list, data, want)
		}
	}
	full := emptyData(list)
	for i := range full {
		full[i].Rows = manyRows(impl.MaxRows, len(list[i].Columns))
	}
	wantData(t, "MaxRows of each", list, full, true)
}

// Each row in turn is one that CheckRow does not let pass.
func TestDataWithRowsAtFault(t *testing.T) {
	list := askedTables()
	wrong := append(lines("1; 1, 'a'; 1, 'a', 1, 1; null, 'a', 1; '1', 'a', 1; 1, 1, 1; 1, x'61', 1; 1, 'a', '1'; 1, 'a', true; true, 'a', 1; null, null, null"), nil, row(), make([]impl.Value, impl.MaxCells+1), make([]impl.Value, impl.MaxList), make([]impl.Value, impl.MaxList+1))
	for _, v := range wrongValues() {
		wrong = append(wrong, row(v, text("a"), num(1)), row(num(1), v, num(1)), row(num(1), text("a"), v), row(num(1), text("a"), num(1), v))
	}
	for _, r := range wrong {
		for at := range askedData()[0].Rows {
			data := askedData()
			if len(r) > 0 && valueRight(r[0]) && r[0].Kind == impl.VaInt {
				r[0] = data[0].Rows[at][0]
			}
			data[0].Rows[at] = r
			wantData(t, fmt.Sprintf("row %d is %.150v", at, r), list, data, false)
		}
	}
	for _, r := range lines("3, null, null; 3, 'x', null; 3, null, 1; 3, '', 0") {
		data := askedData()
		data[0].Rows[2] = r
		wantData(t, shown([][]impl.Value{r}), list, data, true)
	}
	data := askedData()
	data[1].Rows[3] = lines("5, 0, null")[0]
	wantData(t, "null where it may not be", list, data, false)
}

func TestKeysOfDataRise(t *testing.T) {
	for _, c := range []struct {
		columns string
		key     int
		rows    string
		want    bool
	}{
		{"a int, b text null", 1, "1, 'b'; 2, 'a'", true}, {"a int, b text null", 1, "2, 'a'; 1, 'b'", false}, {"a int, b text null", 1, "1, 'a'; 1, 'b'", false}, {"a int, b text null", 1, "1, null; 2, null; 3, null", true}, {"a int, b text null", 1, "1, 'a'; 3, 'a'; 2, 'a'", false}, {"a int, b text null", 1, "1, 'a'; 2, 'a'; 2, 'b'; 3, 'a'", false}, {"a int, b text null", 1, "1, 'a'; 2, 'a'; 1, 'a'", false},
		{"a int, b text", 2, "1, 'a'; 1, 'b'", true}, {"a int, b text", 2, "1, 'b'; 1, 'a'", false}, {"a int, b text", 2, "1, 'b'; 2, 'a'", true}, {"a int, b text", 2, "1, 'a'; 1, 'a'", false}, {"a int, b text", 2, "2, 'a'; 1, 'b'", false}, {"a int, b text", 2, "1, ''; 1, 'a'; 1, 'aa'; 1, 'b'; 2, ''", true}, {"a int, b text", 2, "1, 'aa'; 1, 'a'", false},
		{"a int", 1, "-3; -2; -1; 0; 1", true}, {"a int", 1, "-1; -2", false}, {"a int", 1, "9; 10", true}, {"a int", 1, "10; 9", false}, {"a int", 1, "0; 0", false}, {"a text", 1, "'10'; '9'", true}, {"a text", 1, "'9'; '10'", false}, {"a text", 1, "'A'; 'a'", true}, {"a text", 1, "'a'; 'B'", false}, {"a text", 1, "''; 'a'", true}, {"a text", 1, "''; ''", false},
		{"a bool", 1, "false; true", true}, {"a bool", 1, "true; false", false}, {"a bool", 1, "true; true", false}, {"a bytes", 1, "x''; x'00'; x'0000'; x'01'; x'ff'", true}, {"a bytes", 1, "x'01'; x'00ff'", false}, {"a bytes", 1, "x'80'; x'7f'", false},
		{"a bool, b bool, c int null", 2, "false, false, 2; false, true, 1; true, false, 1; true, true, 0", true}, {"a bool, b bool, c int null", 2, "false, true, 1; false, false, 2", false}, {"a bool, b bool, c int", 3, "false, false, 1; false, false, 2", true}, {"a bool, b bool, c int null", 2, "false, false, 1; false, false, 2", false},
	} {
		list := []impl.Table{table("a", "x int", 1), table("t", c.columns, c.key)}
		wantData(t, c.columns+": "+c.rows, list, []impl.Data{{Name: "a"}, {Name: "t", Rows: lines(c.rows)}}, c.want)
	}
	ends := []impl.Table{table("t", "a int", 1)}
	wantData(t, "the least and the greatest", ends, []impl.Data{{Name: "t", Rows: [][]impl.Value{{num(math.MinInt)}, {num(math.MinInt + 1)}, {num(-1)}, {num(0)}, {num(math.MaxInt - 1)}, {num(math.MaxInt)}}}}, true)
	wantData(t, "the greatest and the least", ends, []impl.Data{{Name: "t", Rows: [][]impl.Value{{num(math.MaxInt)}, {num(math.MinInt)}}}}, false)
}

// Data are rolled, then something of them is bent.
func TestRolledData(t *testing.T) {
	d := &dice{state: 301}
	count := map[bool]int{}
	values := append(risingValues(), wrongValues()...)
	for range 3000 {
		list := typedTables()
		data := rolledData(d, list, 6)
		wantData(t, "rolled", list, data, true)
		at := d.below(len(data))
		rows := data[at].Rows
		switch some := max(1, len(rows)); d.below(6) {
		case 0:
			data[at].Rows = append(rows, lines("9, 'z', true, null, 3")[0])
		case 1:
			slices.Reverse(rows)
		case 2:
			data[at].Rows = append(rows, rows[:d.below(some)]...)
		case 3:
			if len(rows) > 0 {
				r := rows[d.below(some)]
				r[d.below(len(r))] = values[d.below(len(values))]
			}
		case 4:
			data = slices.Delete(data, at, at+d.below(2))
		case 5:
			data[at].Name = list[d.below(len(list))].Name
		}
		want := dataByWords(list, data)
		wantData(t, "bent", list, data, want)
		count[want]++
	}
	if count[true] < 200 || count[false] < 200 {
		t.Error("few of a kind", count)
	}
}
