package tests

import (
	"slices"
	"strings"
	"testing"

	"loop.example/g00208/impl"
)

// plannedData are right of plannedTables.
func plannedData() []impl.Data {
	return dataOf(
		"cases: 1, 'open', true, x'00', 5; 2, 'done', null, null, null; 3, 'open', false, x'ff', 7; 4, 'opener', true, x'', 2; 6, '', null, x'0001', 5; 9, 'open', false, null, 0",
		"notes: 1, 1, 'a', 3; 1, 2, 'b', null; 4, 1, 'c', 3; 5, 0, 'd', 0",
		"plain: -3, 1; 0, null; 3, 0; 7, 1",
		"words: '', null, x''; 'a', 'b', x'00'; 'aa', 'b', x''; 'b', null, x'ff'; 'c', 'a', x'01'",
	)
}

// wantFound holds a plan's rows against what is told here, and against the words.
func wantFound(t *testing.T, p impl.Plan, list []impl.Table, data []impl.Data, want ...int) {
	t.Helper()
	if words, code := planRowsByWords(p, list, data); code != impl.OK || !slices.Equal(words, want) {
		t.Errorf("%s: by the words %v %s", shownPlan(p), words, impl.CodeWord(code))
	}
	wantPlaces(t, p, list, data, want, impl.OK)
}

func TestRowsOfPlans(t *testing.T) {
	list, data := plannedTables(), plannedData()
	k := func(n int) string { return keyOf(num(n)) }
	b := func(n int) string { return behindOf(num(n)) }
	wantFound(t, all("cases"), list, data, 0, 1, 2, 3, 4, 5)
	wantFound(t, all("notes"), list, data, 0, 1, 2, 3)
	for _, c := range []struct {
		name      string
		index     int
		low, high string
		want      []int
	}{
		{"cases", -1, k(3), b(3), []int{2}}, {"cases", -1, k(3), k(3), nil}, {"cases", -1, b(3), b(3), nil}, {"cases", -1, b(3), k(3), nil}, {"cases", -1, k(5), b(5), nil}, {"cases", -1, "", k(3), []int{0, 1}}, {"cases", -1, "", b(3), []int{0, 1, 2}}, {"cases", -1, b(3), "", []int{3, 4, 5}}, {"cases", -1, k(3), "", []int{2, 3, 4, 5}}, {"cases", -1, k(3), k(9), []int{2, 3, 4}}, {"cases", -1, k(4), b(9), []int{3, 4, 5}}, {"cases", -1, k(10), "", nil}, {"cases", -1, "", k(1), nil}, {"cases", -1, "", "\x00", nil}, {"cases", -1, "\x00", "\xff", []int{0, 1, 2, 3, 4, 5}}, {"cases", -1, "\xff", "", nil}, {"cases", -1, "\x02", "\x03", []int{0, 1, 2, 3, 4, 5}}, {"cases", -1, k(3) + "\x00", "", []int{3, 4, 5}}, {"cases", -1, k(3)[:8], k(3), []int{0, 1}}, {"cases", -1, k(3), "\x02", nil},
		{"cases", 0, keyOf(text("open")), behindOf(text("open")), []int{0, 2, 5}}, {"cases", 0, "", keyOf(text("open")), []int{1, 4}}, {"cases", 0, behindOf(text("open")), "", []int{3}}, {"cases", 0, keyOf(text("open")) + k(3), behindOf(text("open")), []int{2, 5}}, {"cases", 0, keyOf(text("open")) + k(1), keyOf(text("open")) + k(9), []int{0, 2}}, {"cases", 0, keyOf(text("")), behindOf(text("")), []int{4}},
		{"cases", 1, "", k(3), []int{1, 3, 5}}, {"cases", 1, "\x00", "\x01", []int{1}}, {"cases", 1, "\x01", k(3), []int{3, 5}}, {"cases", 1, k(5), b(5), []int{0, 4}}, {"cases", 1, k(5) + keyOf(text("o")), b(5), []int{0}}, {"cases", 1, k(6), "", []int{2}}, {"cases", 2, "", keyOf(raw("\x00")), []int{1, 3, 5}}, {"cases", 2, keyOf(raw("\x00")), behindOf(raw("\x00")), []int{0}}, {"cases", 2, behindOf(raw("\x00")), "", []int{2, 4}}, {"cases", 3, keyOf(flag(0)), behindOf(flag(0)), []int{2, 5}}, {"cases", 3, keyOf(flag(1)), "", []int{0, 3}}, {"cases", 3, "", keyOf(flag(0)), []int{1, 4}}, {"cases", 3, "", "", []int{0, 1, 2, 3, 4, 5}},
		{"notes", -1, k(1), b(1), []int{0, 1}}, {"notes", -1, k(1) + k(2), b(1), []int{1}}, {"notes", -1, k(1) + b(1), k(5), []int{1, 2}}, {"notes", -1, b(1), "", []int{2, 3}}, {"notes", 0, k(1), b(4), []int{0, 1, 2}}, {"notes", 1, k(1), b(1), []int{0, 2}}, {"notes", 1, k(1) + k(4), b(2), []int{1, 2}}, {"notes", 2, k(1) + k(3) + k(1), b(1), []int{0, 2}}, {"notes", 2, k(1) + k(3) + b(1), b(1), []int{2}}, {"notes", 2, k(2) + "\x00", b(2), []int{1}},
		{"plain", -1, "", k(0), []int{0}}, {"plain", -1, k(-3), b(0), []int{0, 1}}, {"words", -1, keyOf(text("a")), behindOf(text("a")), []int{1}}, {"words", -1, keyOf(text("")), behindOf(text("")), []int{0}}, {"words", 0, keyOf(text("a")), behindOf(text("b")), []int{1, 2, 4}}, {"words", 0, keyOf(text("b")), behindOf(text("b")), []int{1, 2}}, {"words", 0, "", keyOf(text("")), []int{0, 3}},
	} {
		for _, score := range []int{0, 1, 4, 1000} { // points say nothing of the rows
			wantFound(t, ranged(c.name, c.index, c.low, c.high, score), list, data, c.want...)
		}
	}
	wantFound(t, all("cases"), list, emptyData(list))
	wantFound(t, ranged("cases", 3, "", "\xff", 1), list, emptyData(list))
}

// Numbers at the ends of all ints, and as many rows as a table may have.
func TestRowsOfGreatPlans(t *testing.T) {
	list := []impl.Table{table("t", "a int, b int null", 1, index("byb", 1))}
	data := []impl.Data{{Name: "t", Rows: [][]impl.Value{{num(least), num(greatest)}, {num(-1), {}}, {num(0), num(0)}, {num(greatest), num(least)}}}}
	wantFound(t, ranged("t", -1, keyOf(num(least)), behindOf(num(least)), 4), list, data, 0)
	wantFound(t, ranged("t", -1, behindOf(num(least)), keyOf(num(greatest)), 2), list, data, 1, 2)
	wantFound(t, ranged("t", -1, keyOf(num(greatest)), "", 1), list, data, 3)
	wantFound(t, ranged("t", 0, keyOf(num(least)), keyOf(num(greatest)), 2), list, data, 2, 3)
	wantFound(t, ranged("t", 0, "", behindOf(num(least)), 1), list, data, 1, 3)
	full := []impl.Data{{Name: "t", Rows: manyRows(impl.MaxRows, 2)}}
	wantFound(t, all("t"), list, full, run(0, 400)...)
	wantFound(t, ranged("t", -1, keyOf(num(100)), keyOf(num(399)), 2), list, full, run(100, 399)...)
	wantFound(t, ranged("t", 0, "\x00", "\x00\xff", 2), list, full, run(0, 400)...)
	over := []impl.Data{{Name: "t", Rows: manyRows(impl.MaxRows+1, 2)}}
	wantPlaces(t, all("t"), list, over, nil, impl.ErrBad)
}

// Plans that are not right, each for one reason, and those at the bounds.
func TestPlansThatAreNotRight(t *testing.T) {
	list, data := plannedTables(), plannedData()
	bytes := func(count int) string { return strings.Repeat("\x02", count) }
	want := func(p impl.Plan, right bool) {
		t.Helper()
		code := impl.OK
		if !right {
			code = impl.ErrBad
		}
		places, told := planRowsByWords(p, list, data)
		words, told2 := planTextByWords(p, list)
		if told != code || told2 != code {
			t.Errorf("%s: the words tell %d and %d", shownPlan(p), told, told2)
		}
		wantPlaces(t, p, list, data, places, code)
		wantPlanText(t, p, list, words, code)
	}
	for _, x := range list {
		for index, right := range map[int]bool{least: false, -3: false, -2: false, -1: true, len(x.Indexes) - 1: true, len(x.Indexes): false, len(x.Indexes) + 1: false, greatest: false} {
			want(impl.Plan{Table: x.Name, Index: index}, right)
			want(ranged(x.Name, index, "a", "b", 7), right)
		}
	}
	for size, right := range map[int]bool{0: true, 1: true, 199: true, 200: true, 201: false, 256: false, impl.MaxText: false, impl.MaxText + 1: false} {
		for _, score := range []int{0, 1} {
			want(ranged("cases", -1, bytes(size), "", score), right)
			want(ranged("cases", 1, "", bytes(size), score), right)
			want(ranged("cases", 3, bytes(size), bytes(size), score), right)
			want(ranged("plain", -1, bytes(200), bytes(size), score), right)
		}
	}
	for score, right := range map[int]bool{least: false, -1000: false, -1: false, 0: true, 1: true, 999: true, 1000: true, 1001: false, greatest: false} {
		want(ranged("cases", -1, "", "", score), right)
		want(ranged("notes", 2, bytes(9), "\xff", score), right)
	}
	for _, name := range []string{"", "none", "Cases", "cases ", " cases", "case", "casess", "id", "bystatus", "9", strings.Repeat("c", impl.MaxText), strings.Repeat("c", impl.MaxText+1)} {
		want(all(name), false)
		want(ranged(name, 0, "a", "b", 4), false)
	}
	want(impl.Plan{}, false)
	want(ranged("none", -2, bytes(201), bytes(201), -1), false)
}

func TestDataAndCatalogsOfPlansThatAreNotRight(t *testing.T) {
	list, data := plannedTables(), plannedData()
	wrong, short := plannedData(), plannedData()[:3]
	wrong[3].Rows[1][0] = text("")
	many := make([]impl.Data, impl.MaxList+1)
	for _, p := range []impl.Plan{all("cases"), ranged("cases", 1, "a", "b", 4), all("none"), ranged("cases", 9, "", "", -1)} {
		for _, bad := range [][]impl.Data{wrong, short, nil, data[1:], many[:impl.MaxList]} {
			wantPlaces(t, p, list, bad, nil, impl.ErrBad)
		}
		wantPlaces(t, p, list, many, nil, impl.ErrLong)
		wantPlaces(t, p, nil, many, nil, impl.ErrLong)
		wantPlaces(t, p, wrongCatalogs()[0], many, nil, impl.ErrLong)
		for _, tables := range [][]impl.Table{nil, {}, list[1:], manyTables(impl.MaxTables + 1), manyTables(impl.MaxList)} {
			wantPlaces(t, p, tables, data, nil, impl.ErrBad)
			wantPlaces(t, p, tables, emptyData(tables), nil, impl.ErrBad)
			wantPlanText(t, p, tables, "", impl.ErrBad)
		}
		long := manyTables(impl.MaxList + 1)
		for _, some := range [][]impl.Data{nil, data, wrong, emptyData(long), many} {
			wantPlaces(t, p, long, some, nil, impl.ErrLong)
		}
		wantPlanText(t, p, long, "", impl.ErrLong)
		wantPlanText(t, p, make([]impl.Table, impl.MaxList+1), "", impl.ErrLong)
	}
	for _, bad := range wrongCatalogs() {
		name := ""
		if len(bad) > 0 {
			name = bad[0].Name
		}
		wantPlaces(t, all(name), bad, emptyData(bad), nil, impl.ErrBad)
		wantPlanText(t, all(name), bad, "", impl.ErrBad)
	}
	for _, right := range rightCatalogs() {
		for _, x := range right {
			wantFound(t, all(x.Name), right, emptyData(right))
			wantPlanText(t, all(x.Name), right, x.Name+" all", impl.OK)
		}
	}
}

func TestTextsOfPlans(t *testing.T) {
	list := plannedTables()
	for want, p := range map[string]impl.Plan{
		"cases all": all("cases"), "notes all": all("notes"), "cases key from  below ": ranged("cases", -1, "", "", 1), "cases key from 028000000000000001 below 028000000000000001ff": ranged("cases", -1, keyOf(num(1)), behindOf(num(1)), 4), "cases index bystatus from 036f70656e0001 below 036f70656e0001ff": ranged("cases", 0, keyOf(text("open")), behindOf(text("open")), 4), "cases index byn from  below 028000000000000003": ranged("cases", 1, "", keyOf(num(3)), 1), "cases index bymark from 0400ff0001ff below ": ranged("cases", 2, behindOf(raw("\x00")), "", 1), "cases index byflag from 0101 below 0101ff": ranged("cases", 3, keyOf(flag(1)), behindOf(flag(1)), 1000),
		"notes index again from 00 below ff": ranged("notes", 2, "\x00", "\xff", 1), "words index byother from 0a61 below 7f80": ranged("words", 0, "\na", "\x7f\x80", 2), "plain key from ff below 00": ranged("plain", -1, "\xff", "\x00", 8),
	} {
		if words, code := planTextByWords(p, list); words != want || code != impl.OK {
			t.Errorf("%s: by the words %q %d", shownPlan(p), words, code)
		}
		wantPlanText(t, p, list, want, impl.OK)
	}
	for _, p := range []impl.Plan{all("cases"), ranged("cases", 0, "", "", 0), ranged("cases", 3, "a", "b", 0), ranged("cases", -1, strings.Repeat("a", 200), strings.Repeat("b", 200), 0)} { // no points: all rows, whatever else it has
		wantPlanText(t, p, list, "cases all", impl.OK)
	}
	low, high := strings.Repeat("\x01\xab", 100), strings.Repeat("\x02\xcd", 100)
	wantPlanText(t, ranged("cases", -1, low, high, 1000), list, "cases key from "+strings.Repeat("01ab", 100)+" below "+strings.Repeat("02cd", 100), impl.OK)
	named := []impl.Table{table(longName, "key int, all int", 1, index("key", 1), index("index", 0), index(longName, 1), index("_", 1))}
	for at, name := range []string{"key", "index", longName, "_"} {
		wantPlanText(t, ranged(longName, at, "k", "", 1), named, longName+" index "+name+" from 6b below ", impl.OK)
	}
}

// Rolled plans, many of them not right, over rolled data.
func TestRowsOfRolledPlans(t *testing.T) {
	d := &dice{state: 430}
	count, some := map[int]int{}, 0
	for range 6000 {
		list := rolledIndexed(d, plannedTables())
		data := rolledData(d, list, 12)
		x := list[d.below(len(list))]
		entry := func() string {
			at := slices.IndexFunc(data, func(one impl.Data) bool { return one.Name == x.Name })
			if rows := data[at].Rows; len(rows) > 0 && d.below(5) > 0 {
				s := entryByWords(x, d.below(len(x.Indexes)+1)-1, rows[d.below(len(rows))])
				return (s + "\xff")[:1+d.below(len(s)+1)]
			}
			return strings.Repeat(string([]byte{byte(d.below(256))}), d.below(3))
		}
		p := ranged(x.Name, d.below(len(x.Indexes)+1)-1, entry(), entry(), d.below(9))
		if p.Low > p.High && d.below(4) > 0 {
			p.Low, p.High = p.High, p.Low
		}
		switch d.below(24) {
		case 0:
			p.Index = d.below(8) - 2
		case 1:
			p.Score = []int{-1, 1000, 1001}[d.below(3)]
		case 2:
			p.Low += strings.Repeat("\xff", 120+d.below(200))
		case 3:
			p.Table = []string{"", "none", "plain"}[d.below(3)]
		case 4:
			data[d.below(len(data))].Name = "other"
		}
		want, code := planRowsByWords(p, list, data)
		wantPlaces(t, p, list, data, want, code)
		words, told := planTextByWords(p, list)
		wantPlanText(t, p, list, words, told)
		count[code]++
		if len(want) > 0 {
			some++
		}
		if t.Failed() {
			t.Fatal("and no more are asked")
		}
	}
	if count[impl.OK] < 1000 || count[impl.ErrBad] < 200 || some < 1000 {
		t.Error("few of a kind", count, some)
	}
}
