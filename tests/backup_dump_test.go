package tests

import (
	"slices"
	"strings"
	"testing"

	"loop.example/g00208/impl"
)

const (
	oneText = "one(x int) key 1"
	intOne  = "\x01\x02\x80\x00\x00\x00\x00\x00\x00\x01"
	intTwo  = "\x01\x02\x80\x00\x00\x00\x00\x00\x00\x02"
)

// rowsOf are rows' bytes, one by one.
func rowsOf(rows ...string) [][]byte {
	var list [][]byte
	for _, r := range rows {
		list = append(list, []byte(r))
	}
	return list
}

// Bytes written out here stand beside those by the document's words.
func TestBytesOfDumps(t *testing.T) {
	one := []impl.Table{table("one", "x int", 1)}
	two := append(one, table("t", "a text, b bool null", 1, index("byb", 1)))
	for _, c := range []struct {
		list []impl.Table
		data []impl.Data
		want string
	}{
		{nil, nil, "\x00"},
		{[]impl.Table{}, []impl.Data{}, "\x00"},
		{one, dataOf("one:"), "\x01\x00\x10one(x int) key 1\x00\x00"},
		{one, dataOf("one: 1; 2"), "\x01\x00\x10one(x int) key 1\x00\x02" + intOne + intTwo},
		{one, dataOf("one: -1"), "\x01\x00\x10one(x int) key 1\x00\x01\x01\x02\x7f\xff\xff\xff\xff\xff\xff\xff"},
		{two, dataOf("one:", "t: '', null; 'ab', false; 'b', true"), "\x02\x00\x10one(x int) key 1\x00\x00\x00\x29t(a text, b bool null) key 1 index byb(b)" +
			"\x00\x03\x02\x03\x00\x00\x02\x03\x02ab\x01\x00\x02\x03\x01b\x01\x01"},
	} {
		got := wantDump(t, c.list, c.data, impl.OK)
		if string(got) != c.want {
			t.Errorf("a dump is %q, want %q", got, c.want)
		}
		wantLoad(t, got, impl.OK)
	}
}

// wantLoaded dumps what is right, and loads it again if it is no longer than a text.
func wantLoaded(t *testing.T, list []impl.Table, data []impl.Data) {
	t.Helper()
	dump := wantDump(t, list, data, impl.OK)
	if len(dump) > impl.MaxText {
		wantLoad(t, dump, impl.ErrLong)
		return
	}
	gotList, gotData := wantLoad(t, dump, impl.OK)
	if !sameTables(gotList, list) || !sameData(gotData, data) {
		t.Errorf("%v and %.200s, but %v and %.200s was dumped", gotList, shownData(gotData), list, shownData(data))
	}
}

func TestDumpsOfEveryKind(t *testing.T) {
	wantLoaded(t, backedTables(), backedData())
	wantLoaded(t, ruledTables(), ruledData())
	wantLoaded(t, askedTables(), askedData())
	for _, list := range rightCatalogs() {
		wantLoaded(t, list, emptyData(list))
	}
	for _, x := range rightTables() {
		wantLoaded(t, []impl.Table{x}, emptyData([]impl.Table{x}))
	}
	d := &dice{state: 1700}
	for range 200 {
		var list []impl.Table
		names := rolledNames(d, d.below(impl.MaxTables+1))
		slices.Sort(names)
		for _, name := range names {
			list = append(list, rolledTable(d, name))
		}
		wantLoaded(t, list, rolledData(d, list, 20))
	}
}

// fullData have as many rows as there may be, of manyTables.
func fullData(tables int) []impl.Data {
	var data []impl.Data
	for _, x := range manyTables(tables) {
		var rows [][]impl.Value
		for n := range impl.MaxRows {
			rows = append(rows, row(num(n-200), impl.Value{}))
		}
		data = append(data, impl.Data{Name: x.Name, Rows: rows})
	}
	return data
}

func TestDumpsOfAsMuchAsThereMayBe(t *testing.T) {
	wantLoaded(t, manyTables(impl.MaxTables), fullData(impl.MaxTables))
	data := fullData(impl.MaxTables)
	data[5].Rows = append(data[5].Rows, row(num(999), impl.Value{}))
	wantDump(t, manyTables(impl.MaxTables), data, impl.ErrBad)
	wantDump(t, manyTables(impl.MaxTables+1), fullData(impl.MaxTables+1), impl.ErrBad)
	for _, size := range []int{impl.MaxText - 11, mostSealed, impl.MaxText - 9, impl.MaxText, impl.MaxText + 1, 2 * impl.MaxText, 150 * 444} {
		list, data := wideData(t, size)
		wantLoaded(t, list, data)
	}
}

func TestDumpsOfWhatIsNotRight(t *testing.T) {
	for _, list := range wrongCatalogs() {
		wantDump(t, list, emptyData(list), impl.ErrBad)
	}
	for _, data := range [][]impl.Data{
		nil, {}, dataOf("one: 1"), dataOf("one:", "two:"), dataOf("on:", "other:"), dataOf("other:", "one:"), dataOf("one:", "other:", "other:"),
		dataOf("one: 1, 2", "other:"), dataOf("one: 'a'", "other:"), dataOf("one: null", "other:"), dataOf("one: true", "other:"), {{Name: "one", Rows: [][]impl.Value{nil}}, {Name: "other"}},
		dataOf("one: 1; 1", "other:"), dataOf("one: 2; 1", "other:"), dataOf("one: 1", "other: null, 1"), dataOf("one: 1", "other: 'a', 'b'"), dataOf("one: 1", "other: 'a'"),
		{{Name: "one", Rows: [][]impl.Value{{{Kind: impl.VaInt, T: "a"}}}}, {Name: "other"}}, {{Name: "one"}, {Name: "other", Rows: [][]impl.Value{{text(strings.Repeat("a", impl.MaxCell+1)), num(1)}}}},
	} {
		list := []impl.Table{table("one", "x int", 1), table("other", "a text, n int null", 1)}
		wantDump(t, list, data, impl.ErrBad)
	}
	wantDump(t, nil, dataOf("one:"), impl.ErrBad)
}

func TestListsOfDumps(t *testing.T) {
	long, most := manyTables(impl.MaxList+1), manyTables(impl.MaxList)
	for _, c := range []struct {
		list []impl.Table
		data []impl.Data
		want int
	}{
		{most, nil, impl.ErrBad}, {most, emptyData(most), impl.ErrBad}, {nil, emptyData(most), impl.ErrBad}, {most[:6], emptyData(most), impl.ErrBad},
		{long, nil, impl.ErrLong}, {long, emptyData(long), impl.ErrLong}, {nil, emptyData(long), impl.ErrLong}, {most[:6], emptyData(long), impl.ErrLong},
		{wrongCatalogs()[0], emptyData(long), impl.ErrLong}, {long, dataOf("no:"), impl.ErrLong}, {most, emptyData(long), impl.ErrLong}, {long, emptyData(most), impl.ErrLong},
	} {
		wantDump(t, c.list, c.data, c.want)
	}
}

func TestBytesThatAreNoDumps(t *testing.T) {
	other := partOf("other(a text, b bool null) key 1", []byte("\x02\x03\x01a\x00"))
	for _, c := range []struct {
		what string
		b    []byte
	}{
		{"no bytes", nil},
		{"one behind no tables", []byte("\x00\x00")},
		{"a table too many", rawDump(1)},
		{"a table that is not told", rawDump(2, partOf(oneText))},
		{"a table that is told too much", rawDump(0, partOf(oneText))},
		{"255 tables", rawDump(255, partOf(oneText))},
		{"7 right tables", rawDump(7, slices.Repeat(partOf(oneText), 1), partOf("p(x int) key 1"), partOf("q(x int) key 1"), partOf("r(x int) key 1"), partOf("s(x int) key 1"), partOf("t(x int) key 1"), partOf("u(x int) key 1"))},
		{"tables that fall", rawDump(2, other, partOf(oneText))},
		{"a name twice", rawDump(2, partOf(oneText), partOf(oneText))},
		{"a name twice, in tables that differ", rawDump(2, partOf(oneText), partOf("one(x text) key 1"))},
		{"a text that is empty", rawDump(1, partOf(""))},
		{"a text that is no table's", rawDump(1, partOf("one"))},
		{"a table that is not right", rawDump(1, partOf("one(x int) key 2"))},
		{"a name that is a statement's word", rawDump(1, partOf("from(x int) key 1"))},
		{"a blank more", rawDump(1, partOf("one(x int)  key 1"))},
		{"a blank behind", rawDump(1, partOf(oneText+" "))},
		{"a byte 10 behind", rawDump(1, partOf(oneText+"\n"))},
		{"a nought ahead", rawDump(1, partOf("one(x int) key 01"))},
		{"a text with a row's bytes in it", rawDump(1, partOf(oneText+"\x00\x01"+intOne))},
		{"a text one shorter than told", rawDump(1, partWith(17, oneText, 1, rowsOf(intOne)...))},
		{"a text one longer than told", rawDump(1, partWith(15, oneText, 1, rowsOf(intOne)...))},
		{"a text of 65535 bytes", rawDump(1, partWith(65535, oneText, 1, rowsOf(intOne)...))},
		{"a row too many", rawDump(1, partWith(16, oneText, 1, rowsOf(intOne, intTwo)...))},
		{"a row too few", rawDump(1, partWith(16, oneText, 3, rowsOf(intOne, intTwo)...))},
		{"65535 rows", rawDump(1, partWith(16, oneText, 65535, rowsOf(intOne, intTwo)...))},
		{"no rows of one", rawDump(1, partWith(16, oneText, 0, rowsOf(intOne)...))},
		{"rows that fall", rawDump(1, partOf(oneText, rowsOf(intTwo, intOne)...))},
		{"a row twice", rawDump(1, partOf(oneText, rowsOf(intOne, intOne)...))},
		{"an empty row", rawDump(1, partOf(oneText, rowsOf("\x00")...))},
		{"a value too many", rawDump(1, partOf(oneText, rowsOf("\x02"+intOne[1:]+"\x00")...))},
		{"a value more than told", rawDump(1, partOf(oneText, rowsOf(intOne+"\x00")...))},
		{"a value less than told", rawDump(1, partOf(oneText, rowsOf("\x02"+intOne[1:])...))},
		{"9 values", rawDump(1, partOf(oneText, rowsOf("\x09"+strings.Repeat(intOne[1:], 9))...))},
		{"255 values", rawDump(1, partOf(oneText, rowsOf("\xff"+intOne[1:])...))},
		{"a null where none may be", rawDump(1, partOf(oneText, rowsOf("\x01\x00")...))},
		{"a bool for an int", rawDump(1, partOf(oneText, rowsOf("\x01\x01\x00")...))},
		{"a text for an int", rawDump(1, partOf(oneText, rowsOf("\x01\x03\x01a")...))},
		{"bytes for a text", rawDump(1, partOf("t(a text) key 1", rowsOf("\x01\x04\x01a")...))},
		{"a bool that is 2", rawDump(1, partOf("t(a bool) key 1", rowsOf("\x01\x01\x02")...))},
		{"a kind that is none", rawDump(1, partOf("t(a bool) key 1", rowsOf("\x01\x05\x00")...))},
		{"a text of 61 bytes", rawDump(1, partOf("t(a text) key 1", rowsOf("\x01\x03\x3d"+strings.Repeat("a", 61))...))},
		{"a text one shorter than told in its row", rawDump(1, partOf("t(a text) key 1", rowsOf("\x01\x03\x02a")...))},
		{"an int of seven bytes", rawDump(1, partOf(oneText, rowsOf("\x01\x02\x80\x00\x00\x00\x00\x00\x00")...))},
		{"a fault of the last table's row", rawDump(2, partOf(oneText, rowsOf(intOne, intTwo)...), partOf("other(a text) key 1", rowsOf("\x01\x00")...))},
		{"something behind a dump of no tables", []byte("\x00" + intOne)},
	} {
		list, data := wantLoad(t, c.b, impl.ErrForm)
		if len(list) != 0 || len(data) != 0 {
			t.Error(c.what, "was loaded")
		}
	}
	wantLoad(t, rawDump(2, partOf(oneText, rowsOf(intOne, intTwo)...), other), impl.OK)
}

func TestDumpsOfTooManyRows(t *testing.T) {
	for _, c := range []struct{ rows, want int }{{impl.MaxRows, impl.OK}, {impl.MaxRows + 1, impl.ErrForm}, {5000, impl.ErrForm}} {
		var rows [][]byte
		for n := range c.rows {
			rows = append(rows, rowInDump(row(num(n))))
		}
		wantLoad(t, rawDump(1, partOf(oneText, rows...)), c.want)
		wantLoad(t, rawDump(1, partOf(oneText, slices.Repeat(rowsOf("\x00"), c.rows)...)), impl.ErrForm)
	}
}

// someDumps are right ones of some hundred bytes.
func someDumps(t *testing.T) [][]byte {
	t.Helper()
	list := [][]byte{wantDump(t, nil, nil, impl.OK), wantDump(t, backedTables(), backedData(), impl.OK)}
	list = append(list, wantDump(t, ruledTables(), ruledData(), impl.OK), wantDump(t, askedTables(), askedData(), impl.OK))
	d := &dice{state: 1701}
	for _, most := range []int{0, 1, 2, 5} {
		list = append(list, wantDump(t, typedTables(), rolledData(d, typedTables(), most), impl.OK))
	}
	return list
}

func TestDumpsThatAreLongerOrShorter(t *testing.T) {
	for _, dump := range someDumps(t) {
		for size := range len(dump) {
			wantLoad(t, dump[:size], impl.ErrForm)
		}
		for _, behind := range []string{"\x00", "\x01", "\xff", "\x00\x00", intOne, string(dump)} {
			wantLoad(t, []byte(string(dump)+behind), impl.ErrForm)
		}
		for size := 1; size < len(dump); size++ {
			_, _, by := loadByWords(dump[size:])
			wantLoad(t, dump[size:], by)
		}
	}
}

// Other bytes in a dump's place are no dump, or just that of what is loaded.
func TestDumpsWithOtherBytes(t *testing.T) {
	d, loaded := &dice{state: 1702}, 0
	for _, dump := range someDumps(t) {
		for at := range dump {
			for _, with := range []byte{0, 1, dump[at] + 1, dump[at] - 1, dump[at] ^ 128, byte(d.below(256))} {
				b := slices.Clone(dump)
				b[at] = with
				_, _, by := loadByWords(b)
				list, data := wantLoad(t, b, by)
				if by != impl.OK {
					continue
				}
				loaded++
				if again := wantDump(t, list, data, impl.OK); string(again) != string(b) {
					t.Fatalf("%q was loaded, but is dumped as %q", b, again)
				}
			}
		}
	}
	if loaded < 500 {
		t.Error("few other dumps", loaded)
	}
}

func TestTextsOfDumps(t *testing.T) {
	for _, c := range []struct{ size, right, other int }{{impl.MaxText, impl.OK, impl.ErrForm}, {impl.MaxText + 1, impl.ErrLong, impl.ErrLong}} {
		for _, begin := range []string{"", "\x00", "\x06", "\x01\x00\x10one(x int) key 1\xff\xff", "BK"} {
			for _, fill := range []string{"\x00", "\x01", "\xff"} {
				wantLoad(t, []byte(begin+strings.Repeat(fill, c.size-len(begin))), c.other)
			}
		}
		list, data := wideData(t, c.size)
		wantLoad(t, wantDump(t, list, data, impl.OK), c.right)
	}
}
