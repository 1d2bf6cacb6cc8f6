package tests

import (
	"fmt"
	"strings"
	"testing"

	"loop.example/g00208/impl"
)

var tableTexts = []struct {
	table impl.Table
	text  string
}{
	{table("cases", "id int, status text null", 1, index("bystatus", 1)), "cases(id int, status text null) key 1 index bystatus(status)"},
	{table("a", "a bool", 1), "a(a bool) key 1"},
	{table("_", "a int, b text, c bytes, d bool", 4), "_(a int, b text, c bytes, d bool) key 4"},
	{table("t", "a int, b text null, c bytes null, d bool null, e int null", 1), "t(a int, b text null, c bytes null, d bool null, e int null) key 1"},
	{table("t", "a int, b text", 2, index("x", 1), index("w", 1, 0)), "t(a int, b text) key 2 index x(b) index w(b, a)"},
	{table("key", "index int, int text null", 1, index("key", 1, 0), index("index", 0)), "key(index int, int text null) key 1 index key(int, index) index index(index)"},
	{tableOf("t", manyColumns(8, 8), 8, index("all", 7, 6, 5, 4, 3, 2, 1, 0)), "t(c0 bool, c1 int, c2 text, c3 bytes, c4 bool, c5 int, c6 text, c7 bytes) key 8 index all(c7, c6, c5, c4, c3, c2, c1, c0)"},
	{table(longName, longName+" int", 1, index(longName, 0)), longName + "(" + longName + " int) key 1 index " + longName + "(" + longName + ")"},
}

func TestTableTexts(t *testing.T) {
	for _, c := range tableTexts {
		if s, got := impl.TableText(c.table); s != c.text || got != impl.OK {
			t.Errorf("TableText: %q %d, want %q", s, got, c.text)
		}
		if x, got := impl.ReadTable(c.text); !sameTable(x, c.table) || got != impl.OK {
			t.Errorf("ReadTable %q: %v %d", c.text, x, got)
		}
	}
}

// checkReadBack asks the promise of one table.
func checkReadBack(t *testing.T, x impl.Table) string {
	t.Helper()
	s, got := impl.TableText(x)
	if s != textByWords(x) || got != impl.OK {
		t.Fatalf("TableText of %v: %q %d", x, s, got)
	}
	back, got := impl.ReadTable(s)
	if !sameTable(back, x) || got != impl.OK {
		t.Fatalf("%q is read as %v %d", s, back, got)
	}
	return s
}

func TestTextsAreReadBack(t *testing.T) {
	texts := map[string]impl.Table{}
	d := &dice{state: 11}
	all := rightTables()
	for range 1500 {
		all = append(all, rolledTable(d, oddNames[d.below(len(oddNames))]))
	}
	for _, x := range all {
		s := checkReadBack(t, x)
		if other, ok := texts[s]; ok && !sameTable(other, x) {
			t.Fatalf("%v and %v have one text", other, x)
		}
		texts[s] = x
	}
}

// checkText holds what is read of a text against the document's words; true if it is a table's.
func checkText(t *testing.T, s string) bool {
	t.Helper()
	want, ok := readByWords(s)
	x, got := impl.ReadTable(s)
	if !ok {
		want = impl.Table{}
		code(t, fmt.Sprintf("ReadTable %q", s), got, impl.ErrForm)
	}
	if ok && got != impl.OK || !sameTable(x, want) {
		t.Errorf("%.300q is read as %v %d, want %v %t", s, x, got, want, ok)
	}
	return ok
}

func TestTextsOfNoTable(t *testing.T) {
	for _, s := range []string{
		"", " ", "t", "t(", "t()", "t() key 1", "t() key 0", "t(a) key 1", "t(a int", "t(a int)", "t(a int) key", "t(a int) key ", "t(a int)key 1", "t(a int)  key 1", "t (a int) key 1", "t( a int) key 1", "t(a int ) key 1",
		"t(a  int) key 1", " t(a int) key 1", "t(a int) key 1 ", "t(a int) key 1\n", "t(a int)\tkey 1", "t(a\nint) key 1", "t(a int) key  1", "t(a int) Key 1", "t(a int) key 1;", "t(a int) key 1 index", "t(a int) key 1 index ",
		"t(a int,b int) key 1", "t(a int , b int) key 1", "t(a int,  b int) key 1", "t(a int, ) key 1", "t(, a int) key 1", "t(a int,, b int) key 1", "t(a int b int) key 1", "t(a int, b int)) key 1", "t((a int) key 1",
		"t(a int) key 0", "t(a int) key 2", "t(a int) key 01", "t(a int) key -1", "t(a int) key +1", "t(a int) key 1.0", "t(a int) key a", "t(a int) key 1a", "t(a int) key x1", "t(a int) key 18446744073709551617", "t(a int) key 1000000000000000001",
		"t(a real) key 1", "t(a Int) key 1", "t(a INT) key 1", "t(a null) key 1", "t(a ) key 1", "t( int) key 1", "t(a integer) key 1", "t(a intnull) key 1", "t(a text(9)) key 1", "t(a byte) key 1",
		"t(a int null) key 1", "t(a int, b int null) key 2", "t(a int, b int  null) key 1", "t(a int, b int null null) key 1", "t(a int, b null int) key 1", "t(a int, b int nul) key 1", "t(a int, b int nulls) key 1", "t(a int, b int not null) key 1", "t(a int, b int null ) key 1", "t(a int, b int NULL) key 1",
		"t(a int, a int) key 1", "t(a int, b int, a text) key 1", "1t(a int) key 1", "t(1 int) key 1", "t(a-b int) key 1", "\xc3\xa4(a int) key 1", "t(\xff int) key 1", "t\x00(a int) key 1",
		"t(a int) key 1 index x", "t(a int) key 1 index x()", "t(a int) key 1 index (a)", "t(a int) key 1 index x(b)", "t(a int) key 1 index x(A)", "t(a int) key 1 index x(0)", "t(a int) key 1 index x(a, a)", "t(a int) key 1 index x(a,)", "t(a int) key 1 index x(a, )", "t(a int) key 1 index x( a)", "t(a int) key 1 index x (a)",
		"t(a int) key 1 index x(a) ", "t(a int) key 1 index x(a)index y(a)", "t(a int) key 1 index x(a)  index y(a)", "t(a int) key 1, index x(a)", "t(a int) key 1 index x(a), y(a)", "t(a int) key 1 index x(a) index x(a)", "t(a int) key 1 index x(a) key 1", "t(a int) index x(a) key 1", "t(a int) key 1 index  x(a)", "t(a int) key 1 Index x(a)", "t(a int) key 1 indexx(a)",
		"t(a int, b int) key 1 index x(a,b)", "t(a int, b int) key 1 index x(a b)", "t(a int, b int) key 1 index x(b, a, b)", "t(a int) key 1 index v(a) index w(a) index x(a) index y(a) index z(a)",
		"t(a int)) key 1", "t(a int) key 1)", "(a int) key 1", "t(a int) t(a int) key 1", "t(a int) key 1 t(a int) key 1", longName + "n(a int) key 1", "t(" + longName + "n int) key 1", "t(a int) key 1 index " + longName + "n(a)",
		"t(a int, b int, c int, d int, e int, f int, g int, h int, i int) key 1",
	} {
		if checkText(t, s) {
			t.Errorf("%q is no table's", s)
		}
	}
}

func TestStatementWordsInTexts(t *testing.T) {
	for _, w := range statementWords {
		for _, form := range []string{"W(a int) key 1", "t(W int) key 1", "t(a int, W int) key 1", "t(a int, W int null) key 1", "t(a int) key 1 index W(a)", "t(a int, W int) key 1 index x(W)"} {
			if checkText(t, strings.ReplaceAll(form, "W", w)) {
				t.Errorf("%s: %q is no name here", form, w)
			}
			if !checkText(t, strings.ReplaceAll(form, "W", w+"_")) {
				t.Errorf("%s: %q is a name", form, w+"_")
			}
		}
	}
}

// nearTexts are a text with a byte more, less, or another one, or with two pieces changed about.
func nearTexts(s string, do func(string)) {
	const bytes = " ,()_a0129\n-x\x00\xff"
	for at := range len(s) + 1 {
		for i := range len(bytes) {
			do(s[:at] + bytes[i:i+1] + s[at:])
			if at < len(s) {
				do(s[:at] + bytes[i:i+1] + s[at+1:])
			}
		}
		if at < len(s) {
			do(s[:at] + s[at+1:])
			do(s[:at])
			do(s[at:])
		}
		if at > 0 && at < len(s) {
			do(s[:at-1] + s[at:at+1] + s[at-1:at] + s[at+1:])
		}
	}
}

func TestTextsNearTables(t *testing.T) {
	right, wrong := 0, 0
	d := &dice{state: 21}
	var texts []string
	for _, c := range tableTexts {
		texts = append(texts, c.text)
	}
	for range 12 {
		texts = append(texts, textByWords(rolledTable(d, "cases")))
	}
	for _, s := range texts {
		nearTexts(s, func(near string) {
			if checkText(t, near) {
				right++
			} else {
				wrong++
			}
		})
	}
	if right < 1000 || wrong < 10000 {
		t.Error("only", right, "right and", wrong, "wrong")
	}
}

// Words of texts, one behind the other in another order, or twice, or left out.
func TestTextsOfMixedPieces(t *testing.T) {
	pieces := []string{"t", "a", "b", " ", "(", ")", ", ", " int", " text", " null", " key ", "1", "2", " index ", "x", "a int", "b int null", "(a)", "(a int", "(a int) key 1", " index x(a)"}
	right := 0
	d := &dice{state: 31}
	for range 40000 {
		s := "t"
		for range 1 + d.below(7) {
			s += pieces[d.below(len(pieces))]
		}
		if checkText(t, s) {
			right++
		}
	}
	if right < 100 {
		t.Error("only", right, "right")
	}
}

func TestLongTableTexts(t *testing.T) {
	for _, s := range []string{"a", " ", "(", "t(a int) key 1", "a int, ", " index x(a)", "1", "\x00", "t(a int", "a, "} {
		for _, ahead := range []string{"", "t(", "t(a int) key 1", "t(a int) key ", "t(a int) key 1 index x(", "t(a int, b int) key 1 index x(a, b, "} {
			long := ahead + strings.Repeat(s, impl.MaxText/len(s)+1)
			for _, c := range []struct{ size, want int }{{impl.MaxText, impl.ErrForm}, {impl.MaxText + 1, impl.ErrLong}} {
				x, got := impl.ReadTable(long[:c.size])
				code(t, fmt.Sprintf("ReadTable of %d bytes %q %q", c.size, ahead, s), got, c.want)
				if !sameTable(x, impl.Table{}) {
					t.Errorf("a code, and %v", x)
				}
			}
		}
	}
}

// The longest text of a right table is within the bounds of a text.
func TestTheLongestTable(t *testing.T) {
	var names []string
	for i := range impl.MaxCells {
		names = append(names, fmt.Sprintf("%s%d", longName[1:], i))
	}
	x := tableOf(longName, nil, 1)
	for i, name := range names {
		x.Columns = append(x.Columns, impl.Column{Name: name, Type: impl.VaBytes, Null: i > 0})
	}
	for i := range impl.MaxIndexes {
		x.Indexes = append(x.Indexes, index(names[i], 7, 6, 5, 4, 3, 2, 1, 0))
	}
	if s := checkReadBack(t, x); len(s) != 1997 {
		t.Error("it has bytes", len(s))
	}
}
