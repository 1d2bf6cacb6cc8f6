package tests

import (
	"fmt"
	"math"
	"reflect"
	"slices"
	"strings"
	"testing"

	"loop.example/g00208/impl"
)

// someRows are right and wrong ones, some of them too long.
func someRows() [][]impl.Value {
	rows := append(mixedRows(30), risingRows()...)
	rows = append(rows, fullRow(), make([]impl.Value, impl.MaxCells+1), make([]impl.Value, impl.MaxList), make([]impl.Value, impl.MaxList+1))
	for _, v := range wrongValues() {
		rows = append(rows, row(v), row(text("a"), v))
	}
	return rows
}

// someTexts are such as are read as values, keys and rows, and such as are not.
func someTexts() []string {
	texts := []string{"a", "1", "-", "null", "'", "x'0", "\xff", strings.Repeat("\x00", impl.MaxText), strings.Repeat("a", impl.MaxText+1)}
	for _, l := range literals {
		texts = append(texts, l.text)
	}
	for _, e := range encoded {
		texts = append(texts, e.key, e.stored)
	}
	return append(texts, risingTexts()...)
}

// asked are all calls of chapters 1 and 2 with some arguments, to be made in any order.
func asked() []func() []any {
	var calls []func() []any
	ask := func(f func() []any) { calls = append(calls, f) }
	for _, v := range append(risingValues(), wrongValues()...) {
		ask(func() []any { return []any{impl.ValueOK(v)} })
		ask(func() []any { s, c := impl.ValueText(v); return []any{s, c} })
		ask(func() []any { n, c := impl.CompareValues(v, num(1)); return []any{n, c} })
	}
	for _, r := range someRows() {
		ask(func() []any { n, c := impl.CompareRows(r, row(num(1), text("a"))); return []any{n, c} })
		ask(func() []any { b, c := impl.KeyBytes(r); return []any{b, c} })
		ask(func() []any { b, c := impl.RowBytes(r); return []any{b, c} })
		ask(func() []any { s, c := impl.RowText(r); return []any{s, c} })
	}
	for _, s := range someTexts() {
		ask(func() []any { return []any{impl.NameOK(s), impl.CodeOf(s)} })
		ask(func() []any { v, c := impl.ReadValue(s); return []any{v, c} })
		ask(func() []any { r, c := impl.ReadKey([]byte(s)); return []any{r, c} })
		ask(func() []any { r, c := impl.ReadRow([]byte(s)); return []any{r, c} })
	}
	for _, n := range []int{math.MinInt, -1, 0, 1, 19, 20, math.MaxInt} {
		ask(func() []any { return []any{impl.CodeWord(n)} })
	}
	return calls
}

func TestAlikeArgumentsHaveAlikeAnswers(t *testing.T) {
	calls := slices.Concat(asked(), askedOfDisks(), askedOfStores(), askedOfSpaces(), askedOfTrees(), askedOfCursors(), askedOfBases(), askedOfHistories(), askedOfTables(), askedOfStatements(), askedOfTypes(), askedOfEval(), askedOfQueries(), askedOfPlans(), askedOfRules(), askedOfBackups(), askedOfEngines())
	first := make([][]any, len(calls))
	for i, call := range calls {
		first[i] = call()
	}
	for i := range calls {
		at := len(calls) - 1 - i
		if again := calls[at](); !reflect.DeepEqual(again, first[at]) {
			t.Errorf("call %d: %.200v, then %.200v", at, first[at], again)
		}
	}
}

func TestEmptyListsAreNil(t *testing.T) {
	none := []impl.Value{}
	for _, pair := range [][2][]impl.Value{{nil, none}, {none, nil}, {none, none}} {
		if n, c := impl.CompareRows(pair[0], pair[1]); n != 0 || c != impl.OK {
			t.Error("CompareRows", n, c)
		}
	}
	for _, r := range [][]impl.Value{nil, none} {
		key, c1 := impl.KeyBytes(r)
		b, c2 := impl.RowBytes(r)
		s, c3 := impl.RowText(r)
		if len(key) != 0 || string(b) != "\x00" || s != "()" || c1+c2+c3 != impl.OK {
			t.Errorf("empty row: %q %d %q %d %q %d", key, c1, b, c2, s, c3)
		}
	}
	for _, b := range [][]byte{nil, {}} {
		if r, c := impl.ReadKey(b); len(r) != 0 || c != impl.OK {
			t.Error("ReadKey of nothing", r, c)
		}
		if r, c := impl.ReadRow(b); len(r) != 0 || c != impl.ErrForm {
			t.Error("ReadRow of nothing", r, c)
		}
	}
}

func TestArgumentsStay(t *testing.T) {
	for _, r := range someRows() {
		whole := append(slices.Clone(r), text("behind"), num(9))
		before := slices.Clone(whole)
		arg := whole[:len(r)]
		impl.CompareRows(arg, arg)
		impl.KeyBytes(arg)
		impl.RowBytes(arg)
		impl.RowText(arg)
		if !slices.Equal(whole, before) {
			t.Errorf("%.200v was changed", r)
		}
	}
	for _, s := range someTexts() {
		whole := []byte(s + "\x01behind")
		arg := whole[:len(s)]
		impl.ReadKey(arg)
		impl.ReadRow(arg)
		if string(whole) != s+"\x01behind" {
			t.Errorf("%.200q was changed", s)
		}
	}
}

func TestAnswersAreNewMemory(t *testing.T) {
	for _, r := range readers {
		want := row(num(-2), text("ab\x00"), raw("cd"), impl.Value{})
		arg := slices.Clone(want)
		b, _ := r.write(arg)
		first := string(b)
		arg[1].T = "other"
		if string(b) != first {
			t.Errorf("%s: what was written is of the argument", r.name)
		}
		back, _ := r.read(b)
		clear(b)
		if !slices.Equal(back, want) {
			t.Errorf("%s: what was read is of the argument", r.name)
		}
		clear(back)
		again, c := r.write(want)
		other, c2 := r.read(again)
		if string(again) != first || !slices.Equal(other, want) || c+c2 != impl.OK {
			t.Errorf("%s: an answer hangs on what became of the one ahead", r.name)
		}
	}
}

func TestLongLists(t *testing.T) {
	wrong := row(impl.Value{Kind: 9})
	for _, c := range []struct {
		list []impl.Value
		want int
	}{
		{make([]impl.Value, impl.MaxList), impl.ErrBad},
		{make([]impl.Value, impl.MaxList+1), impl.ErrLong},
		{slices.Repeat(wrong, impl.MaxList), impl.ErrBad},
		{slices.Repeat(wrong, impl.MaxList+1), impl.ErrLong},
	} {
		what := fmt.Sprint(len(c.list), " values: ")
		for _, other := range [][]impl.Value{nil, wrong, row(num(1)), make([]impl.Value, impl.MaxList)} {
			n, got := impl.CompareRows(c.list, other)
			code(t, what+"CompareRows left", got, c.want)
			m, got := impl.CompareRows(other, c.list)
			code(t, what+"CompareRows right", got, c.want)
			if n != 0 || m != 0 {
				t.Error(what, "CompareRows has a code and", n, m)
			}
		}
		key, got := impl.KeyBytes(c.list)
		code(t, what+"KeyBytes", got, c.want)
		b, got := impl.RowBytes(c.list)
		code(t, what+"RowBytes", got, c.want)
		s, got := impl.RowText(c.list)
		code(t, what+"RowText", got, c.want)
		if len(key) != 0 || len(b) != 0 || s != "" {
			t.Error(what, "a code, and more than that")
		}
	}
}

func TestLongTexts(t *testing.T) {
	for _, s := range []string{"\x00", "\x01", "\x03", "a", "1", "'", "x", "\xff"} {
		for _, c := range []struct{ size, want int }{{impl.MaxText, impl.ErrForm}, {impl.MaxText + 1, impl.ErrLong}} {
			long := strings.Repeat(s, c.size)
			what := fmt.Sprintf("%d bytes %q: ", c.size, s)
			v, got := impl.ReadValue(long)
			code(t, what+"ReadValue", got, c.want)
			key, got := impl.ReadKey([]byte(long))
			code(t, what+"ReadKey", got, c.want)
			r, got := impl.ReadRow([]byte(long))
			code(t, what+"ReadRow", got, c.want)
			if v != (impl.Value{}) || len(key) != 0 || len(r) != 0 {
				t.Error(what, "a code, and more than that")
			}
		}
	}
}

// A text within a value is bounded by the value's rule alone.
func TestLongTextsWithinValues(t *testing.T) {
	for _, v := range []impl.Value{text(strings.Repeat("a", impl.MaxText+1)), raw(strings.Repeat("a", impl.MaxText+1))} {
		_, got := impl.CompareValues(v, v)
		code(t, "CompareValues", got, impl.ErrBad)
		_, got = impl.ValueText(v)
		code(t, "ValueText", got, impl.ErrBad)
		_, got = impl.KeyBytes(row(v))
		code(t, "KeyBytes", got, impl.ErrBad)
		_, got = impl.RowBytes(row(v))
		code(t, "RowBytes", got, impl.ErrBad)
		_, got = impl.RowText(row(v))
		code(t, "RowText", got, impl.ErrBad)
		_, got = impl.CompareRows(row(v), nil)
		code(t, "CompareRows", got, impl.ErrBad)
	}
}
