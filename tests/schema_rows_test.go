package tests

import (
	"bytes"
	"fmt"
	"math"
	"slices"
	"strings"
	"testing"

	"loop.example/g00208/impl"
)

// wantNoRow asks all that is asked of a row.
func wantNoRow(t *testing.T, what string, x impl.Table, r []impl.Value, want, column int) {
	t.Helper()
	got, at := impl.CheckRow(x, r)
	code(t, "CheckRow: "+what, got, want)
	if at != column {
		t.Errorf("%s: column %d, want %d", what, at, column)
	}
	key, got := impl.RowKey(x, r)
	code(t, "RowKey: "+what, got, want)
	if len(key) != 0 {
		t.Error(what, "RowKey: a code, and", key)
	}
	for _, i := range []int{math.MinInt, -1, 0, 1, 4, math.MaxInt} {
		entry, got := impl.IndexKey(x, i, r)
		code(t, "IndexKey: "+what, got, want)
		if len(entry) != 0 {
			t.Error(what, "IndexKey: a code, and", entry)
		}
	}
	for _, v := range []impl.Value{{}, num(1), {Kind: 9}} {
		wide, got := impl.WidenRow(x, r, v)
		code(t, "WidenRow: "+what, got, want)
		if len(wide) != 0 {
			t.Error(what, "WidenRow: a code, and", wide)
		}
	}
}

func TestRowsAtFault(t *testing.T) {
	none := impl.Value{}
	wrong := impl.Value{Kind: 9}
	x := table("t", "a int, b text, c bool null, d bytes null", 2, index("x", 3, 2))
	for _, c := range []struct {
		row          []impl.Value
		want, column int
	}{
		{nil, impl.ErrCount, 0}, {row(), impl.ErrCount, 0}, {row(num(1)), impl.ErrCount, 0}, {row(num(1), text("a"), none), impl.ErrCount, 0}, {row(num(1), text("a"), none, none, none), impl.ErrCount, 0}, {make([]impl.Value, impl.MaxCells), impl.ErrCount, 0},
		{make([]impl.Value, impl.MaxCells+1), impl.ErrBad, 0}, {make([]impl.Value, impl.MaxList), impl.ErrBad, 0}, {make([]impl.Value, impl.MaxList+1), impl.ErrLong, 0}, {slices.Repeat(row(wrong), impl.MaxList+1), impl.ErrLong, 0},
		{row(wrong, text("a"), none, none), impl.ErrBad, 0}, {row(num(1), wrong, none, none), impl.ErrBad, 0}, {row(num(1), text("a"), none, wrong), impl.ErrBad, 0}, {row(wrong), impl.ErrBad, 0}, {row(none, text("a"), none, wrong), impl.ErrBad, 0},
		{row(num(1), text(strings.Repeat("a", impl.MaxCell+1)), none, none), impl.ErrBad, 0}, {row(num(1), text(strings.Repeat("a", impl.MaxText+1)), none, none), impl.ErrBad, 0},
		{row(none, text("a"), none, none), impl.ErrNull, 0}, {row(num(1), none, none, none), impl.ErrNull, 1}, {row(none, none, none, none), impl.ErrNull, 0},
		{row(text("1"), text("a"), none, none), impl.ErrType, 0}, {row(flag(1), text("a"), none, none), impl.ErrType, 0}, {row(num(1), raw("a"), none, none), impl.ErrType, 1}, {row(num(1), num(1), none, none), impl.ErrType, 1},
		{row(num(1), text("a"), num(0), none), impl.ErrType, 2}, {row(num(1), text("a"), none, text("a")), impl.ErrType, 3}, {row(num(1), text("a"), text(""), text("a")), impl.ErrType, 2},
		{row(text("1"), none, none, none), impl.ErrType, 0}, {row(none, num(1), none, none), impl.ErrNull, 0}, {row(num(1), none, num(1), none), impl.ErrNull, 1}, {row(num(1), raw(""), none, num(1)), impl.ErrType, 1},
	} {
		wantNoRow(t, fmt.Sprintf("%.200v", c.row), x, c.row, c.want, c.column)
		if got, at := checkByWords(x, c.row); got != c.want || at != c.column {
			t.Errorf("%.200v: by the words %d %d", c.row, got, at)
		}
	}
}

// Each column of a table of the most columns is at fault in its turn, by null and by each other type.
func TestEachColumnAtFault(t *testing.T) {
	d := &dice{state: 4}
	for _, key := range []int{1, 3, impl.MaxCells} {
		x := tableOf("t", manyColumns(impl.MaxCells, key), key)
		for at, c := range x.Columns {
			for _, v := range []impl.Value{{}, flag(1), num(1), text("a"), raw("a")} {
				r := rolledRow(d, x)
				r[at] = v
				switch {
				case v.Kind == impl.VaNull && !c.Null:
					wantNoRow(t, fmt.Sprint(r), x, r, impl.ErrNull, at)
				case v.Kind != impl.VaNull && v.Kind != c.Type:
					wantNoRow(t, fmt.Sprint(r), x, r, impl.ErrType, at)
				default:
					if got, column := impl.CheckRow(x, r); got != impl.OK || column != 0 {
						t.Error(r, "is a row, but", got, column)
					}
				}
			}
		}
	}
}

func TestRolledRows(t *testing.T) {
	codes := map[int]int{}
	d := &dice{state: 5}
	values := slices.Concat(risingValues(), wrongValues(), make([]impl.Value, 20))
	for range 6000 {
		x := rolledTable(d, "t")
		r := rolledRow(d, x)
		for range d.below(3) {
			r[d.below(len(r))] = values[d.below(len(values))]
		}
		if d.below(8) == 0 {
			r = append(r, values[d.below(len(values))])
		}
		if d.below(20) == 0 {
			x.Key = 0
		}
		want, column := checkByWords(x, r)
		codes[want]++
		if got, at := impl.CheckRow(x, r); got != want || at != column {
			t.Fatalf("%v %.200v: %d %d, want %d %d", x, r, got, at, want, column)
		}
	}
	for _, c := range []int{impl.OK, impl.ErrBad, impl.ErrCount, impl.ErrNull, impl.ErrType} {
		if codes[c] < 100 {
			t.Error("code", c, "only", codes[c])
		}
	}
}

func TestKeysAndEntries(t *testing.T) {
	x := table("t", "a int, b text, c bool null", 2, index("x", 2), index("y", 1, 2, 0), index("z", 0))
	for _, c := range []struct {
		row     []impl.Value
		key     string
		entries []string
	}{
		{row(num(1), text("a"), flag(1)), "\x02\x80\x00\x00\x00\x00\x00\x00\x01\x03a\x00\x01",
			[]string{"\x01\x01", "\x03a\x00\x01\x01\x01\x02\x80\x00\x00\x00\x00\x00\x00\x01", "\x02\x80\x00\x00\x00\x00\x00\x00\x01"}},
		{row(num(-1), text("\x00"), impl.Value{}), "\x02\x7f\xff\xff\xff\xff\xff\xff\xff\x03\x00\xff\x00\x01",
			[]string{"\x00", "\x03\x00\xff\x00\x01\x00\x02\x7f\xff\xff\xff\xff\xff\xff\xff", "\x02\x7f\xff\xff\xff\xff\xff\xff\xff"}},
	} {
		if key, got := impl.RowKey(x, c.row); string(key) != c.key || got != impl.OK {
			t.Errorf("%v has key %q %d", c.row, key, got)
		}
		for i, ahead := range c.entries {
			if entry, got := impl.IndexKey(x, i, c.row); string(entry) != ahead+c.key || got != impl.OK {
				t.Errorf("%v has entry %q %d of index %d", c.row, entry, got, i)
			}
		}
		for _, i := range []int{math.MinInt, -256, -1, 3, 4, 256, math.MaxInt} {
			entry, got := impl.IndexKey(x, i, c.row)
			code(t, fmt.Sprint("IndexKey of index ", i), got, impl.ErrRange)
			if len(entry) != 0 {
				t.Error("a code, and", entry)
			}
		}
	}
	_, got := impl.IndexKey(table("t", "a int", 1), 0, row(num(1)))
	code(t, "IndexKey without an index", got, impl.ErrRange)
}

// An index of all columns and a key of all are together more values than a row has.
func TestEntriesOfManyColumns(t *testing.T) {
	x := tableOf("t", manyColumns(impl.MaxCells, impl.MaxCells), impl.MaxCells, index("all", 7, 6, 5, 4, 3, 2, 1, 0), index("one", 3))
	long := strings.Repeat("\x00", impl.MaxCell)
	r := row(flag(1), num(2), text(long), raw(long), flag(0), num(-1), text("a"), raw("b"))
	turned := slices.Clone(r)
	slices.Reverse(turned)
	ahead, _ := impl.KeyBytes(turned)
	key, _ := impl.KeyBytes(r)
	if entry, got := impl.IndexKey(x, 0, r); got != impl.OK || !bytes.Equal(entry, slices.Concat(ahead, key)) {
		t.Errorf("entry %q %d", entry, got)
	}
	ahead, _ = impl.KeyBytes(r[3:4])
	if entry, got := impl.IndexKey(x, 1, r); got != impl.OK || !bytes.Equal(entry, slices.Concat(ahead, key)) {
		t.Errorf("entry %q %d", entry, got)
	}
}

// orderBy compares two rows of a table by some columns, then by others.
func orderBy(a, b []impl.Value, lists ...[]int) int {
	for _, columns := range lists {
		for _, at := range columns {
			if n, _ := impl.CompareValues(a[at], b[at]); n != 0 {
				return n
			}
		}
	}
	return 0
}

// checkRise holds keys and entries of two rows against the order of the values they are of; it tells how often two were alike.
func checkRise(t *testing.T, x impl.Table, a, b []impl.Value) int {
	t.Helper()
	alike, keys := 0, run(0, x.Key)
	first, c1 := impl.RowKey(x, a)
	second, c2 := impl.RowKey(x, b)
	want := orderBy(a, b, keys)
	if c1+c2 != impl.OK || bytes.Compare(first, second) != want {
		t.Fatalf("%v %v: keys %q %q, want %d", a, b, first, second, want)
	}
	if want == 0 {
		alike++
	}
	for i, in := range x.Indexes {
		first, c1 = impl.IndexKey(x, i, a)
		second, c2 = impl.IndexKey(x, i, b)
		want = orderBy(a, b, in.Columns, keys)
		if c1+c2 != impl.OK || bytes.Compare(first, second) != want {
			t.Fatalf("%v %v: entries %q %q of %v, want %d", a, b, first, second, in, want)
		}
		if want != 0 && orderBy(a, b, in.Columns) == 0 {
			alike++
		}
	}
	return alike
}

func TestKeysAndEntriesRise(t *testing.T) {
	alike := 0
	d := &dice{state: 6}
	tables := rightTables()
	for range 150 {
		tables = append(tables, rolledTable(d, "t"))
	}
	for _, x := range tables {
		var rows [][]impl.Value
		for range 12 {
			rows = append(rows, rolledRow(d, x))
		}
		for _, a := range rows {
			for _, b := range rows {
				alike += checkRise(t, x, a, b)
			}
		}
	}
	if alike < 1000 {
		t.Error("only alike", alike)
	}
}

// All values of a type, as a key and as an index ahead of a key that falls while they rise.
func TestKeysOfAllValuesRise(t *testing.T) {
	for kind := impl.VaBool; kind <= impl.VaBytes; kind++ {
		of := slices.DeleteFunc(risingValues(), func(v impl.Value) bool { return v.Kind != kind })
		x := table("t", "id "+typeNames[kind]+", n int, more "+typeNames[kind]+" null", 2, index("bymore", 2), index("byn", 1))
		var rows [][]impl.Value
		for i := range of {
			rows = append(rows, row(of[i], num(-i), of[len(of)-1-i]))
		}
		rows = append(rows, row(of[0], num(1), impl.Value{}), row(of[len(of)-1], num(0), impl.Value{}))
		for _, a := range rows {
			for _, b := range rows {
				checkRise(t, x, a, b)
			}
		}
	}
}

func TestWidenedRows(t *testing.T) {
	x := table("t", "a int, b text null", 1)
	r := row(num(1), impl.Value{})
	for _, v := range risingValues() {
		if wide, got := impl.WidenRow(x, r, v); got != impl.OK || !slices.Equal(wide, append(slices.Clone(r), v)) {
			t.Errorf("%v by %v: %v %d", r, v, wide, got)
		}
	}
	for _, v := range wrongValues() {
		wide, got := impl.WidenRow(x, r, v)
		code(t, fmt.Sprint("WidenRow by ", v), got, impl.ErrBad)
		if len(wide) != 0 {
			t.Error("a code, and", wide)
		}
	}
	d := &dice{state: 8}
	for count := 1; count <= impl.MaxCells; count++ {
		x := tableOf("t", manyColumns(count, 1), 1)
		r := rolledRow(d, x)
		for _, v := range []impl.Value{{}, num(7), {Kind: 9}} {
			wide, got := impl.WidenRow(x, r, v)
			switch {
			case count == impl.MaxCells:
				code(t, "WidenRow of a full row", got, impl.ErrFull)
			case v.Kind == 9:
				code(t, "WidenRow by no value", got, impl.ErrBad)
			case got != impl.OK || !slices.Equal(wide, append(slices.Clone(r), v)):
				t.Errorf("%v by %v: %v %d", r, v, wide, got)
			}
			if got != impl.OK && len(wide) != 0 {
				t.Error("a code, and", wide)
			}
		}
	}
}

// A row that is widened by a column's value is a row of the table with the column more.
func TestWidenedRowsAreRows(t *testing.T) {
	done := 0
	d := &dice{state: 9}
	values := risingValues()
	for range 3000 {
		x := rolledTable(d, "t")
		c := impl.Column{Name: "more", Type: 1 + d.below(4), Null: d.below(2) == 0}
		v := values[d.below(len(values))]
		if d.below(4) == 0 {
			v = impl.Value{}
		}
		next, got := impl.CatalogStep([]impl.Table{x}, impl.CatAct{Kind: impl.CaColumn, Name: "t", Column: c, Value: v})
		r := rolledRow(d, x)
		wide, full := impl.WidenRow(x, r, v)
		if got != impl.OK {
			if (got == impl.ErrFull) != (full == impl.ErrFull) {
				t.Fatal(x, "is full for one alone", got, full)
			}
			continue
		}
		done++
		code(t, "WidenRow", full, impl.OK)
		if is, at := impl.CheckRow(next[0], wide); is != impl.OK {
			t.Fatalf("%v is no row of %v: %d at %d", wide, next[0], is, at)
		}
		before, _ := impl.RowKey(x, r)
		behind, _ := impl.RowKey(next[0], wide)
		if !bytes.Equal(before, behind) {
			t.Fatalf("%v has another key than %v", wide, r)
		}
	}
	if done < 500 {
		t.Error("only", done)
	}
}
