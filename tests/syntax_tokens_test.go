package tests

import (
	"slices"
	"strings"
	"testing"

	"loop.example/g00208/impl"
)

func wordAt(at int, t string) impl.Token {
	return impl.Token{Kind: impl.TkWord, Text: t, At: at}
}

func signAt(at int, t string) impl.Token {
	return impl.Token{Kind: impl.TkSign, Text: t, At: at}
}

func litAt(at int, v impl.Value) impl.Token {
	return impl.Token{Kind: impl.TkLit, Val: v, At: at}
}

func TestSyntaxConstants(t *testing.T) {
	got := []int{
		impl.MaxSource, impl.MaxTokens, impl.MaxTree, impl.MaxDeep, impl.TkWord, impl.TkLit, impl.TkSign,
		impl.NdSelect, impl.NdInsert, impl.NdUpdate, impl.NdDelete, impl.NdItem, impl.NdTable, impl.NdOn, impl.NdWhere, impl.NdGroup,
		impl.NdOrder, impl.NdLimit, impl.NdSet, impl.NdLit, impl.NdCol, impl.NdUnary, impl.NdBinary, impl.NdAgg,
	}
	if want := append([]int{1000, 200, 120, 20, 1, 2, 3}, run(1, 18)...); !slices.Equal(got, want) {
		t.Error("constants", got, want)
	}
}

var someTokens = []struct {
	text string
	list []impl.Token
}{
	{"", nil}, {" ", nil}, {"\n", nil}, {" \n\n  ", nil},
	{"a", []impl.Token{wordAt(0, "a")}}, {"  a\n", []impl.Token{wordAt(2, "a")}}, {"select", []impl.Token{wordAt(0, "select")}},
	{"null true false", []impl.Token{wordAt(0, "null"), wordAt(5, "true"), wordAt(10, "false")}},
	{"_ A9z_ x X", []impl.Token{wordAt(0, "_"), wordAt(2, "A9z_"), wordAt(7, "x"), wordAt(9, "X")}},
	{"0 7 10 999999999999999999", []impl.Token{litAt(0, num(0)), litAt(2, num(7)), litAt(4, num(10)), litAt(7, num(999999999999999999))}},
	{"-1", []impl.Token{signAt(0, "-"), litAt(1, num(1))}}, {"1.2", []impl.Token{litAt(0, num(1)), signAt(1, "."), litAt(2, num(2))}},
	{"'' 'a' '''' 'it''s'", []impl.Token{litAt(0, text("")), litAt(3, text("a")), litAt(7, text("'")), litAt(12, text("it's"))}},
	{"'a''b''''c'", []impl.Token{litAt(0, text("a'b''c"))}}, {"'a' 'b'", []impl.Token{litAt(0, text("a")), litAt(4, text("b"))}},
	{"'a\n \x00\xff--('", []impl.Token{litAt(0, text("a\n \x00\xff--("))}}, {"'a'b", []impl.Token{litAt(0, text("a")), wordAt(3, "b")}}, {"'a'1", []impl.Token{litAt(0, text("a")), litAt(3, num(1))}},
	{"x'' x'00' x'0aff'", []impl.Token{litAt(0, raw("")), litAt(4, raw("\x00")), litAt(10, raw("\x0a\xff"))}}, {"x'0a'x'0b'", []impl.Token{litAt(0, raw("\x0a")), litAt(5, raw("\x0b"))}},
	{"x '00'", []impl.Token{wordAt(0, "x"), litAt(2, text("00"))}}, {"X'00'", []impl.Token{wordAt(0, "X"), litAt(1, text("00"))}}, {"ax'0'", []impl.Token{wordAt(0, "ax"), litAt(2, text("0"))}}, {"xx'0'", []impl.Token{wordAt(0, "xx"), litAt(2, text("0"))}},
	{"_x'0'", []impl.Token{wordAt(0, "_x"), litAt(2, text("0"))}}, {"x0'1'", []impl.Token{wordAt(0, "x0"), litAt(2, text("1"))}}, {"'a'x'00'", []impl.Token{litAt(0, text("a")), litAt(3, raw("\x00"))}}, {"x'00'a", []impl.Token{litAt(0, raw("\x00")), wordAt(5, "a")}}, {"x'00'12", []impl.Token{litAt(0, raw("\x00")), litAt(5, num(12))}},
	{"<> <= >= = < > + - * / % ( ) , .", []impl.Token{signAt(0, "<>"), signAt(3, "<="), signAt(6, ">="), signAt(9, "="), signAt(11, "<"), signAt(13, ">"), signAt(15, "+"), signAt(17, "-"), signAt(19, "*"), signAt(21, "/"), signAt(23, "%"), signAt(25, "("), signAt(27, ")"), signAt(29, ","), signAt(31, ".")}},
	{"<<>>==<=>=><", []impl.Token{signAt(0, "<"), signAt(1, "<>"), signAt(3, ">="), signAt(5, "="), signAt(6, "<="), signAt(8, ">="), signAt(10, ">"), signAt(11, "<")}},
	{"<=>", []impl.Token{signAt(0, "<="), signAt(2, ">")}}, {"<>=", []impl.Token{signAt(0, "<>"), signAt(2, "=")}}, {"=>", []impl.Token{signAt(0, "="), signAt(1, ">")}}, {"=<", []impl.Token{signAt(0, "="), signAt(1, "<")}}, {"< >", []impl.Token{signAt(0, "<"), signAt(2, ">")}}, {"<\n=", []impl.Token{signAt(0, "<"), signAt(2, "=")}},
	{"--", []impl.Token{signAt(0, "-"), signAt(1, "-")}}, {"a.b", []impl.Token{wordAt(0, "a"), signAt(1, "."), wordAt(2, "b")}}, {"count(*)", []impl.Token{wordAt(0, "count"), signAt(5, "("), signAt(6, "*"), signAt(7, ")")}},
	{longName, []impl.Token{wordAt(0, longName)}}, {longName + "=1", []impl.Token{wordAt(0, longName), signAt(40, "="), litAt(41, num(1))}},
	{"'" + strings.Repeat("a", impl.MaxCell) + "'", []impl.Token{litAt(0, text(strings.Repeat("a", impl.MaxCell)))}}, {"'" + strings.Repeat("''", impl.MaxCell) + "'", []impl.Token{litAt(0, text(strings.Repeat("'", impl.MaxCell)))}}, {"x'" + strings.Repeat("fe", impl.MaxCell) + "'", []impl.Token{litAt(0, raw(strings.Repeat("\xfe", impl.MaxCell)))}},
}

func TestTokens(t *testing.T) {
	for _, c := range someTokens {
		list, got, place := impl.SqlTokens(c.text)
		if got != impl.OK || place != 0 || !slices.Equal(list, c.list) {
			t.Errorf("%q: %v %d %d, want %v", c.text, list, got, place, c.list)
		}
	}
}

// checkTokens holds the tokens of a text against the document's words.
func checkTokens(t *testing.T, s string) int {
	t.Helper()
	list, got, place := impl.SqlTokens(s)
	want, wantCode, wantPlace := tokensByWords(s)
	if got != wantCode || place != wantPlace || !slices.Equal(list, want) {
		t.Fatalf("%.1100q: %.500v %d at %d, want %.500v %d at %d", s, list, got, place, want, wantCode, wantPlace)
	}
	return got
}

func TestTokensOfAllShortTexts(t *testing.T) {
	for _, c := range []struct {
		alphabet string
		longest  int
	}{{"x'0a", 7}, {"x'f \nG", 5}, {"<>=- ", 6}, {"10_a .", 5}, {"xX'\x00\xff9", 5}, {"a1'(\n!", 5}} {
		count := [2]int{}
		eachText(c.alphabet, c.longest, func(s string) {
			if checkTokens(t, s) == impl.OK {
				count[0]++
			} else {
				count[1]++
			}
		})
		if count[0] == 0 || count[1] == 0 && c.alphabet != "<>=- " {
			t.Error("one kind only", c.alphabet, count)
		}
	}
}

// Each byte alone, against a word, a number, a text and a sign.
func TestTokensOfEachByte(t *testing.T) {
	for b := range 256 {
		one := string([]byte{byte(b)})
		for _, form := range []string{"?", " ?", "? ", "a?", "?a", "a ?a", "1?", "?1", "1 ? 1", "'?'", "''?", "?''", "?'00'", "x'?'", "x'0?'", "x'?0'", "x?'00'", "<?", "?=", "?>", "??"} {
			checkTokens(t, strings.ReplaceAll(form, "?", one))
		}
		_, got, place := impl.SqlTokens("ab " + one + " c")
		isToken := strings.Contains(" \n=<>+-*/%(),._", one) || '0' <= b && b <= '9' || 'a' <= b && b <= 'z' || 'A' <= b && b <= 'Z'
		if isToken != (got == impl.OK) || !isToken && (got != impl.ErrSyntax || place != 3) {
			t.Errorf("byte %d: %d at %d", b, got, place)
		}
	}
}

func TestTextsThatAreNoTokens(t *testing.T) {
	for _, c := range []struct {
		text        string
		code, place int
	}{
		{"!", impl.ErrSyntax, 0}, {"a !", impl.ErrSyntax, 2}, {"a\tb", impl.ErrSyntax, 1}, {"a\rb", impl.ErrSyntax, 1}, {"a\x00", impl.ErrSyntax, 1}, {"\xa0", impl.ErrSyntax, 0}, {"a;", impl.ErrSyntax, 1}, {"a \"b\"", impl.ErrSyntax, 2}, {"a b != c", impl.ErrSyntax, 4}, {"a #", impl.ErrSyntax, 2},
		{"00", impl.ErrSyntax, 0}, {"007", impl.ErrSyntax, 0}, {"a 01", impl.ErrSyntax, 2}, {"-00", impl.ErrSyntax, 1}, {"1000000000000000000", impl.ErrSyntax, 0}, {"a <9999999999999999999", impl.ErrSyntax, 3}, {strings.Repeat("1", 500), impl.ErrSyntax, 0}, {"9223372036854775808", impl.ErrSyntax, 0},
		{"12ab", impl.ErrSyntax, 0}, {"1_", impl.ErrSyntax, 0}, {"a 1x'00'", impl.ErrSyntax, 2}, {"0x", impl.ErrSyntax, 0}, {"1e5", impl.ErrSyntax, 0}, {"1.5e", impl.ErrSyntax, 2}, {"a1.2b", impl.ErrSyntax, 3}, {"0_", impl.ErrSyntax, 0}, {"999999999999999999a", impl.ErrSyntax, 0},
		{"'", impl.ErrSyntax, 0}, {"a 'b", impl.ErrSyntax, 2}, {"'''", impl.ErrSyntax, 0}, {"'a''", impl.ErrSyntax, 0}, {"'a' 'b''", impl.ErrSyntax, 4}, {"'a\n", impl.ErrSyntax, 0}, {"'" + strings.Repeat("a", impl.MaxCell+1) + "'", impl.ErrSyntax, 0}, {"a '" + strings.Repeat("''", impl.MaxCell+1) + "'", impl.ErrSyntax, 2},
		{"x'", impl.ErrSyntax, 0}, {"x'0'", impl.ErrSyntax, 0}, {"a x'000'", impl.ErrSyntax, 2}, {"x'0A'", impl.ErrSyntax, 0}, {"x'0g'", impl.ErrSyntax, 0}, {"x' '", impl.ErrSyntax, 0}, {"x'00", impl.ErrSyntax, 0}, {"x''''", impl.ErrSyntax, 0}, {"x'00 '", impl.ErrSyntax, 0}, {"(x'0\n'", impl.ErrSyntax, 1},
		{"x'" + strings.Repeat("00", impl.MaxCell+1) + "'", impl.ErrSyntax, 0}, {"x'" + strings.Repeat("00", impl.MaxCell) + "0'", impl.ErrSyntax, 0},
		{longName + "n", impl.ErrSyntax, 0}, {"a " + longName + "9", impl.ErrSyntax, 2}, {"a " + longName + "_ !", impl.ErrSyntax, 2}, {strings.Repeat("_", impl.MaxSource), impl.ErrSyntax, 0},
	} {
		list, got, place := impl.SqlTokens(c.text)
		if got != c.code || place != c.place || len(list) > 0 {
			t.Errorf("%.100q: %v %d at %d, want %d at %d", c.text, list, got, place, c.code, c.place)
		}
		checkTokens(t, c.text)
		checkParsed(t, c.text)
	}
}

// manySigns are so many tokens, the first of them at 0.
func manySigns(count int) string { return strings.Repeat("( ", count) }

func TestBoundsOfTokens(t *testing.T) {
	blanks := strings.Repeat(" ", impl.MaxText+1)
	for _, c := range []struct {
		what, text  string
		count       int
		code, place int
	}{
		{"nothing", "", 0, impl.OK, 0},
		{"MaxSource blanks", blanks[:impl.MaxSource], 0, impl.OK, 0}, {"one more", blanks[:impl.MaxSource+1], 0, impl.ErrRange, 0},
		{"MaxText blanks", blanks[:impl.MaxText], 0, impl.ErrRange, 0}, {"one more", blanks, 0, impl.ErrLong, 0},
		{"MaxTokens", manySigns(impl.MaxTokens), impl.MaxTokens, impl.OK, 0}, {"one more", manySigns(impl.MaxTokens + 1), 0, impl.ErrMany, 400}, {"many more", manySigns(499), 0, impl.ErrMany, 400},
		{"MaxTokens without blanks", strings.Repeat("(", impl.MaxTokens), impl.MaxTokens, impl.OK, 0}, {"one more", strings.Repeat("(", impl.MaxTokens+1), 0, impl.ErrMany, 200}, {"MaxSource tokens", strings.Repeat("(", impl.MaxSource), 0, impl.ErrMany, 200}, {"tokens of two bytes", "  " + strings.Repeat("<>", impl.MaxTokens+3), 0, impl.ErrMany, 402},
		{"a word in the bounds", blanks[:impl.MaxSource-1] + "a", 1, impl.OK, 0}, {"a word that goes beyond", blanks[:impl.MaxSource-1] + "ab", 0, impl.ErrRange, 0},
		{"a fault at the end", blanks[:impl.MaxSource-1] + "!", 0, impl.ErrSyntax, 999}, {"a fault beyond the end", blanks[:impl.MaxSource] + "!", 0, impl.ErrRange, 0}, {"a fault ahead of the end", "!" + blanks[:impl.MaxSource], 0, impl.ErrRange, 0}, {"a fault in a long text", "!" + blanks, 0, impl.ErrLong, 0},
		{"many and a fault", manySigns(impl.MaxTokens+1) + "!", 0, impl.ErrSyntax, 402}, {"a fault and many", "!" + manySigns(impl.MaxTokens+1), 0, impl.ErrSyntax, 0}, {"MaxTokens and a fault", manySigns(impl.MaxTokens) + "!", 0, impl.ErrSyntax, 400},
		{"many in too long a text", manySigns(501), 0, impl.ErrRange, 0}, {"all of it", strings.Repeat("!(", impl.MaxText), 0, impl.ErrLong, 0},
	} {
		list, got, place := impl.SqlTokens(c.text)
		if got != c.code || place != c.place || len(list) != c.count {
			t.Errorf("%s: %d tokens, %d at %d, want %d, %d at %d", c.what, len(list), got, place, c.count, c.code, c.place)
		}
		if n, got, place := impl.ParseSql(c.text); c.code != impl.OK && (got != c.code || place != c.place || !sameTree(n, impl.Tree{})) {
			t.Errorf("%s: parsed as %s %d at %d, want %d at %d", c.what, drawn(n), got, place, c.code, c.place)
		}
	}
}

// Texts of mixed pieces, some of them without a blank between.
func TestTokensOfMixedPieces(t *testing.T) {
	pieces := []string{"a", "x", "select", "_9", "0", "12", "999999999999999999", "'", "''", "'a'", "'it''s'", "x'", "x'00'", "x'0'", "<", ">", "=", "-", "(", ")", ".", ",", " ", "\n", "  ", "!", longName}
	d := &dice{state: 51}
	count := map[int]int{}
	for range 20000 {
		s := ""
		for range d.below(9) {
			s += pieces[d.below(len(pieces))]
		}
		count[checkTokens(t, s)]++
	}
	if count[impl.OK] < 2000 || count[impl.ErrSyntax] < 2000 {
		t.Error("few of a kind", count)
	}
}
