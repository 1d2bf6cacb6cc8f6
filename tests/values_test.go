package tests

import (
	"bytes"
	"cmp"
	"fmt"
	"math"
	"slices"
	"strings"
	"testing"

	"loop.example/g00208/impl"
)

func TestValueOK(t *testing.T) {
	for _, v := range risingValues() {
		if !impl.ValueOK(v) {
			t.Errorf("%v is right", v)
		}
	}
	for _, s := range []string{strings.Repeat("a", 60), strings.Repeat("\x00", 60)} {
		if !impl.ValueOK(text(s)) || !impl.ValueOK(raw(s)) {
			t.Errorf("%q is right", s)
		}
	}
	for _, v := range wrongValues() {
		if impl.ValueOK(v) {
			t.Errorf("%.80v is not right", v)
		}
	}
}

func TestValuesHaveOneOrder(t *testing.T) {
	list := risingValues()
	for i, a := range list {
		for j, b := range list {
			n, c := impl.CompareValues(a, b)
			if n != cmp.Compare(i, j) || c != impl.OK {
				t.Errorf("CompareValues %v %v: %d %d", a, b, n, c)
			}
		}
	}
}

func TestCompareWrongValues(t *testing.T) {
	for _, v := range wrongValues() {
		for _, pair := range [][2]impl.Value{{v, num(1)}, {num(1), v}, {v, v}} {
			n, c := impl.CompareValues(pair[0], pair[1])
			code(t, fmt.Sprint("CompareValues ", pair), c, impl.ErrBad)
			if n != 0 {
				t.Error("CompareValues has a code and", n)
			}
		}
	}
}

// risingRows stand in the order that the document asks for.
func risingRows() [][]impl.Value {
	return [][]impl.Value{
		nil,
		{{}},
		{{}, {}},
		{{}, {}, {}, {}, {}, {}, {}, {}},
		{{}, raw("")},
		{flag(0)},
		{flag(0), flag(1)},
		{flag(1)},
		{num(math.MinInt), num(math.MaxInt)},
		{num(-1)},
		{num(-1), text("\xff")},
		{num(0)},
		{num(256), num(-1)},
		{num(256), num(1)},
		{text("")},
		{text(""), {}},
		{text(""), raw("\xff")},
		{text("\x00")},
		{text("a")},
		{text("a"), {}},
		{text("a"), raw("\xff")},
		{text("a\x00")},
		{text("a\x00"), text("b")},
		{text("a\x00\x01")},
		{text("a\x00\xff")},
		{text("a\x01")},
		{text("a\xff")},
		{text("b")},
		{raw("")},
		{raw("a")},
	}
}

func TestRowsHaveOneOrder(t *testing.T) {
	list := risingRows()
	for i, a := range list {
		for j, b := range list {
			n, c := impl.CompareRows(a, b)
			if n != cmp.Compare(i, j) || c != impl.OK {
				t.Errorf("CompareRows %v %v: %d %d", a, b, n, c)
			}
		}
	}
}

func TestKeyBytesRiseAsRowsDo(t *testing.T) {
	rows := append(risingRows(), mixedRows(700)...)
	for _, v := range risingValues() {
		rows = append(rows, row(v), row(v, impl.Value{}), row(v, raw("\xff")), row(impl.Value{}, v))
	}
	keys := make([][]byte, len(rows))
	for i, r := range rows {
		b, c := impl.KeyBytes(r)
		code(t, fmt.Sprint("KeyBytes ", r), c, impl.OK)
		keys[i] = b
	}
	for i, a := range rows {
		for j, b := range rows {
			n, _ := impl.CompareRows(a, b)
			if m := bytes.Compare(keys[i], keys[j]); m != n {
				t.Fatalf("rows %v %v: %d, their keys %q %q: %d", a, b, n, keys[i], keys[j], m)
			}
			if (n == 0) != slices.Equal(a, b) {
				t.Fatalf("rows %v %v: %d", a, b, n)
			}
		}
	}
}

// encoded are rows, their key bytes and their row bytes.
var encoded = []struct {
	row         []impl.Value
	key, stored string
}{
	{nil, "", "\x00"},
	{[]impl.Value{{}}, "\x00", "\x01\x00"},
	{[]impl.Value{flag(0), flag(1)}, "\x01\x00\x01\x01", "\x02\x01\x00\x01\x01"},
	{[]impl.Value{num(0)}, "\x02\x80\x00\x00\x00\x00\x00\x00\x00", "\x01\x02\x80\x00\x00\x00\x00\x00\x00\x00"},
	{[]impl.Value{num(0x0102030405060708)}, "\x02\x81\x02\x03\x04\x05\x06\x07\x08", "\x01\x02\x81\x02\x03\x04\x05\x06\x07\x08"},
	{[]impl.Value{num(-1)}, "\x02\x7f\xff\xff\xff\xff\xff\xff\xff", "\x01\x02\x7f\xff\xff\xff\xff\xff\xff\xff"},
	{[]impl.Value{num(math.MinInt)}, "\x02\x00\x00\x00\x00\x00\x00\x00\x00", "\x01\x02\x00\x00\x00\x00\x00\x00\x00\x00"},
	{[]impl.Value{num(math.MaxInt)}, "\x02\xff\xff\xff\xff\xff\xff\xff\xff", "\x01\x02\xff\xff\xff\xff\xff\xff\xff\xff"},
	{[]impl.Value{text(""), raw("")}, "\x03\x00\x01\x04\x00\x01", "\x02\x03\x00\x04\x00"},
	{[]impl.Value{text("ab")}, "\x03ab\x00\x01", "\x01\x03\x02ab"},
	{[]impl.Value{text("\x00\xff\x00")}, "\x03\x00\xff\xff\x00\xff\x00\x01", "\x01\x03\x03\x00\xff\x00"},
	{[]impl.Value{raw("\x01\x00\x01")}, "\x04\x01\x00\xff\x01\x00\x01", "\x01\x04\x03\x01\x00\x01"},
}

func TestBytesOfRows(t *testing.T) {
	for _, e := range encoded {
		if b, c := impl.KeyBytes(e.row); string(b) != e.key || c != impl.OK {
			t.Errorf("KeyBytes %v: %q %d", e.row, b, c)
		}
		if b, c := impl.RowBytes(e.row); string(b) != e.stored || c != impl.OK {
			t.Errorf("RowBytes %v: %q %d", e.row, b, c)
		}
	}
}

// fullRow has as many values as a row may have, of as many bytes, all of them escaped in a key.
func fullRow() []impl.Value {
	return slices.Repeat([]impl.Value{text(strings.Repeat("\x00", impl.MaxCell))}, impl.MaxCells)
}

func TestRowsAreReadBack(t *testing.T) {
	rows := append(risingRows(), mixedRows(500)...)
	for _, v := range risingValues() {
		rows = append(rows, row(v), slices.Repeat(row(v), impl.MaxCells))
	}
	for _, r := range append(rows, fullRow()) {
		key, c1 := impl.KeyBytes(r)
		back, c2 := impl.ReadKey(key)
		if c1 != impl.OK || c2 != impl.OK || !slices.Equal(back, r) {
			t.Errorf("key of %v: %d, read back %v %d", r, c1, back, c2)
		}
		b, c1 := impl.RowBytes(r)
		back, c2 = impl.ReadRow(b)
		if c1 != impl.OK || c2 != impl.OK || !slices.Equal(back, r) {
			t.Errorf("bytes of %v: %d, read back %v %d", r, c1, back, c2)
		}
	}
}

func TestWrongRows(t *testing.T) {
	rows := [][]impl.Value{make([]impl.Value, impl.MaxCells+1), make([]impl.Value, impl.MaxList)}
	for _, v := range wrongValues() {
		rows = append(rows, row(v), row(num(1), v), append(make([]impl.Value, impl.MaxCells-1), v))
	}
	for _, r := range rows {
		what := fmt.Sprint(len(r), " values ", r)
		n, c := impl.CompareRows(r, nil)
		code(t, "CompareRows "+what, c, impl.ErrBad)
		m, c := impl.CompareRows(nil, r)
		code(t, "CompareRows "+what, c, impl.ErrBad)
		key, c := impl.KeyBytes(r)
		code(t, "KeyBytes "+what, c, impl.ErrBad)
		b, c := impl.RowBytes(r)
		code(t, "RowBytes "+what, c, impl.ErrBad)
		s, c := impl.RowText(r)
		code(t, "RowText "+what, c, impl.ErrBad)
		if n != 0 || m != 0 || len(key) != 0 || len(b) != 0 || s != "" {
			t.Errorf("%.200s: a code, and more than that", what)
		}
	}
}

// readers are both ways from bytes to rows, each with its way back.
var readers = []struct {
	name  string
	read  func([]byte) ([]impl.Value, int)
	write func([]impl.Value) ([]byte, int)
}{
	{"key", impl.ReadKey, impl.KeyBytes},
	{"row", impl.ReadRow, impl.RowBytes},
}

func TestWrongBytes(t *testing.T) {
	long := strings.Repeat("a", impl.MaxCell+1)
	wrong := [][]string{{
		"\x01", "\x01\x02", "\x01\xff", "\x01\x00\x01", "\x02", "\x02\x80\x00\x00\x00\x00\x00\x00", "\x03", "\x03a", "\x03a\x00", "\x03a\x00\x00",
		"\x03a\x00\x02", "\x03a\x00\xfe\x00\x01", "\x03\x00\xff", "\x03\x00\xff\x00", "\x04\x00", "\x05", "\xff", "\x00\x05", "\x03a\x00\x01\x01",
		"\x03" + long + "\x00\x01", "\x04" + long + "\x00\x01", strings.Repeat("\x00", impl.MaxCells+1), strings.Repeat("\x00", impl.MaxText),
		"\x03" + strings.Repeat("a", impl.MaxText-1), "\x03" + strings.Repeat("\x00\xff", impl.MaxText/2-1),
	}, {
		"", "\x01", "\x02\x00", "\x00\x00", "\x01\x00\x00", "\x01\x01", "\x01\x01\x02", "\x01\x02", "\x01\x02\x80\x00\x00\x00\x00\x00\x00",
		"\x01\x03", "\x01\x03\x01", "\x01\x03\x02a", "\x01\x03\x01ab", "\x01\x05", "\x01\xff", "\xff", "\x01\x03\x3d" + long, "\x01\x04\x3d" + long,
		"\x01\x03\xff" + strings.Repeat("a", 255), "\x09" + strings.Repeat("\x00", 9), "\x08" + strings.Repeat("\x00", 9), "\x09" + strings.Repeat("\x00", 8),
		strings.Repeat("\x00", impl.MaxText), "\xff" + strings.Repeat("\x00", 255), "\x00" + strings.Repeat("\x00", 256),
	}}
	for i, r := range readers {
		for _, s := range wrong[i] {
			back, c := r.read([]byte(s))
			code(t, fmt.Sprintf("%s %q", r.name, s), c, impl.ErrForm)
			if len(back) != 0 {
				t.Errorf("%s %.60q: a code, and %v", r.name, s, back)
			}
		}
	}
}

// smallRows are all rows of few bytes that these texts can be bytes of.
func smallRows(alphabet string) [][]impl.Value {
	values := []impl.Value{{}, flag(0), flag(1)}
	eachText(alphabet, 3, func(s string) { values = append(values, text(s), raw(s)) })
	rows := [][]impl.Value{nil}
	for from := 0; from < len(rows); from++ {
		for _, v := range values {
			r := append(slices.Clone(rows[from]), v)
			if b, _ := impl.RowBytes(r); len(b) <= 6 {
				rows = append(rows, r)
			}
		}
	}
	return rows
}

func TestShortBytesAreJustThoseOfRows(t *testing.T) {
	const alphabet = "\x00\x01\x02\x03\x04\x05\xff"
	for _, r := range readers {
		rows := map[string][]impl.Value{}
		for _, s := range smallRows(alphabet) {
			b, _ := r.write(s)
			rows[string(b)] = s
		}
		eachText(alphabet, 5, func(s string) {
			want, ok := rows[s]
			back, c := r.read([]byte(s))
			if ok != (c == impl.OK) || !ok && c != impl.ErrForm || !slices.Equal(back, want) {
				t.Errorf("%s %q: %v %d, want %v", r.name, s, back, c, want)
			}
		})
	}
}

func TestCutRowsAreNotRead(t *testing.T) {
	for _, r := range append(mixedRows(40), fullRow()) {
		whole, _ := impl.RowBytes(r)
		for at := range whole {
			_, c := impl.ReadRow(whole[:at])
			code(t, fmt.Sprintf("ReadRow %q", whole[:at]), c, impl.ErrForm)
		}
	}
}

func TestTurnedBytesAreNotReadAsOthers(t *testing.T) {
	rows := append(mixedRows(40), fullRow())
	for _, r := range readers {
		for _, s := range rows {
			whole, _ := r.write(s)
			for at := range whole {
				for _, turn := range []byte{1, 2, 4, 128, 255} {
					b := slices.Clone(whole)
					b[at] ^= turn
					checkReading(t, r.name, b, r.read, r.write)
				}
				checkReading(t, r.name, whole[:at], r.read, r.write)
			}
			checkReading(t, r.name, append(slices.Clone(whole), 0), r.read, r.write)
		}
	}
}

// checkReading asks that bytes that are read are just those that are written of what was read.
func checkReading(t *testing.T, name string, b []byte, read func([]byte) ([]impl.Value, int), write func([]impl.Value) ([]byte, int)) {
	t.Helper()
	back, c := read(b)
	if c == impl.ErrForm && len(back) == 0 {
		return
	}
	again, c2 := write(back)
	if c != impl.OK || c2 != impl.OK || !bytes.Equal(again, b) {
		t.Fatalf("%s %q is read as %v %d", name, b, back, c)
	}
}
