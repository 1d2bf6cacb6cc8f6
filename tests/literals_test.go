package tests

import (
	"fmt"
	"math"
	"slices"
	"strconv"
	"strings"
	"testing"

	"loop.example/g00208/impl"
)

var literals = []struct {
	value impl.Value
	text  string
}{
	{impl.Value{}, "null"},
	{flag(0), "false"},
	{flag(1), "true"},
	{num(0), "0"},
	{num(7), "7"},
	{num(-7), "-7"},
	{num(10), "10"},
	{num(999999999999999999), "999999999999999999"},
	{num(-999999999999999999), "-999999999999999999"},
	{num(100000000000000000), "100000000000000000"},
	{text(""), "''"},
	{text("a"), "'a'"},
	{text("null"), "'null'"},
	{text("'"), "''''"},
	{text("''"), "''''''"},
	{text("it's"), "'it''s'"},
	{text("'a"), "'''a'"},
	{text("a'"), "'a'''"},
	{text("\x00\n\xff\""), "'\x00\n\xff\"'"},
	{text(strings.Repeat("a", 60)), "'" + strings.Repeat("a", 60) + "'"},
	{text(strings.Repeat("'", 60)), "'" + strings.Repeat("'", 120) + "'"},
	{raw(""), "x''"},
	{raw("\x00"), "x'00'"},
	{raw("\x0a\xff"), "x'0aff'"},
	{raw("'"), "x'27'"},
	{raw("\x01\x23\x45\x67\x89\xab\xcd\xef"), "x'0123456789abcdef'"},
	{raw(strings.Repeat("\xf0", 60)), "x'" + strings.Repeat("f0", 60) + "'"},
}

func TestLiterals(t *testing.T) {
	for _, l := range literals {
		if s, c := impl.ValueText(l.value); s != l.text || c != impl.OK {
			t.Errorf("ValueText %v: %q %d", l.value, s, c)
		}
		if v, c := impl.ReadValue(l.text); v != l.value || c != impl.OK {
			t.Errorf("ReadValue %q: %v %d", l.text, v, c)
		}
	}
}

func TestLiteralsAreReadBack(t *testing.T) {
	for _, v := range risingValues() {
		s, c := impl.ValueText(v)
		back, c2 := impl.ReadValue(s)
		code(t, fmt.Sprint("ValueText ", v), c, impl.OK)
		if v.Kind == impl.VaInt && len(strings.TrimPrefix(s, "-")) > 18 {
			code(t, "ReadValue "+s, c2, impl.ErrForm)
		} else if back != v || c2 != impl.OK {
			t.Errorf("ReadValue %q: %v %d", s, back, c2)
		}
	}
}

func TestLiteralsOfGreatNumbers(t *testing.T) {
	for _, n := range []int{math.MinInt, math.MinInt + 1, -1000000000000000000, 1000000000000000000, math.MaxInt} {
		s, c := impl.ValueText(num(n))
		if s != strconv.Itoa(n) || c != impl.OK {
			t.Errorf("ValueText %d: %q %d", n, s, c)
		}
		v, c := impl.ReadValue(s)
		code(t, "ReadValue "+s, c, impl.ErrForm)
		if v != (impl.Value{}) {
			t.Errorf("ReadValue %q: a code, and %v", s, v)
		}
	}
}

func TestWrongLiterals(t *testing.T) {
	for _, s := range []string{
		"", " ", "nul", "nulll", "Null", "NULL", " null", "null ", "True", "TRUE", "false\n", "t",
		"-", "--1", "+1", "-0", "00", "01", "-01", "007", "1 ", " 1", "1.0", "1e3", "1_0", "0x1", "1a", "a1", "- 1", "1-", "\xd9\xa1",
		"1234567890123456789", "-1234567890123456789", "0000000000000000001", "9223372036854775808", "18446744073709551617", strings.Repeat("9", 400),
		"'", "'a", "a'", "'a'b", "'a' ", " 'a'", "'''", "'a'b'", "'''''", "'a''", "\"a\"", "''a'", "'a'''b'",
		"x", "x'", "X''", "X'00'", "x'0'", "x'000'", "x'0G'", "x'AB'", "x'0A'", "x'g0'", "x'00", "x00'", "x'00'0", "x'00''", "x '00'", "x'0 '", "x'''", "x''''", "x\"00\"", "xx''",
		"'" + strings.Repeat("a", 61) + "'", "'" + strings.Repeat("'", 122) + "'", "x'" + strings.Repeat("00", 61) + "'",
		"'" + strings.Repeat("a", impl.MaxText-2) + "'", strings.Repeat("1", impl.MaxText), strings.Repeat("'", impl.MaxText),
	} {
		v, c := impl.ReadValue(s)
		code(t, fmt.Sprintf("ReadValue %q", s), c, impl.ErrForm)
		if v != (impl.Value{}) {
			t.Errorf("ReadValue %.60q: a code, and %v", s, v)
		}
	}
}

func TestShortTextsAreJustThoseOfValues(t *testing.T) {
	const alphabet = "'x-019a"
	texts := map[string]impl.Value{}
	for n := -99999; n <= 99999; n++ {
		texts[strconv.Itoa(n)] = num(n)
	}
	eachText(alphabet, 3, func(s string) {
		texts["'"+strings.ReplaceAll(s, "'", "''")+"'"] = text(s)
	})
	for c := range 256 {
		texts[fmt.Sprintf("x'%02x'", c)] = raw(string([]byte{byte(c)}))
	}
	texts["x''"] = raw("")
	eachText(alphabet, 5, func(s string) {
		want, ok := texts[s]
		v, c := impl.ReadValue(s)
		if ok != (c == impl.OK) || !ok && c != impl.ErrForm || v != want {
			t.Errorf("ReadValue %q: %v %d", s, v, c)
		}
	})
}

func TestTextOfWrongValues(t *testing.T) {
	for _, v := range wrongValues() {
		s, c := impl.ValueText(v)
		code(t, fmt.Sprint("ValueText ", v), c, impl.ErrBad)
		if s != "" {
			t.Errorf("ValueText: a code, and %q", s)
		}
	}
}

func TestRowText(t *testing.T) {
	for _, c := range []struct {
		row  []impl.Value
		want string
	}{
		{nil, "()"},
		{row(impl.Value{}), "(null)"},
		{row(text("")), "('')"},
		{row(text(", "), num(-1), raw("\x00")), "(', ', -1, x'00')"},
		{row(num(math.MinInt), num(math.MaxInt), flag(0), flag(1)), "(-9223372036854775808, 9223372036854775807, false, true)"},
		{slices.Repeat(row(num(1)), 8), "(1, 1, 1, 1, 1, 1, 1, 1)"},
	} {
		if s, code := impl.RowText(c.row); s != c.want || code != impl.OK {
			t.Errorf("RowText %v: %q %d", c.row, s, code)
		}
	}
}
