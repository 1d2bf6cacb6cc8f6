package tests

import (
	"slices"
	"strings"
	"testing"

	"loop.example/g00208/impl"
)

// someValues are right ones of each type, and null.
func someValues() []impl.Value {
	list := []impl.Value{{}}
	for kind := impl.VaBool; kind <= impl.VaBytes; kind++ {
		list = append(list, valuesOfType(kind)...)
	}
	return list
}

func TestLogic(t *testing.T) {
	no, yes, null := flag(0), flag(1), impl.Value{}
	for _, c := range [][4]impl.Value{
		{no, no, no, no}, {no, yes, no, yes}, {no, null, no, null},
		{yes, no, no, yes}, {yes, yes, yes, yes}, {yes, null, null, yes},
		{null, no, no, null}, {null, yes, null, yes}, {null, null, null, null},
	} {
		wantBinary(t, c[0], "and", c[1], c[2], impl.OK)
		wantBinary(t, c[0], "or", c[1], c[3], impl.OK)
	}
	for _, c := range [][2]impl.Value{{no, yes}, {yes, no}, {null, null}} {
		wantUnary(t, "not", c[0], c[1], impl.OK)
	}
}

func TestComparisons(t *testing.T) {
	for _, c := range []struct {
		a, b impl.Value
		true string
	}{
		{flag(0), flag(0), "= <= >="}, {flag(0), flag(1), "<> < <="}, {flag(1), flag(0), "<> > >="}, {num(2), num(2), "= <= >="}, {num(2), num(10), "<> < <="}, {num(-1), num(1), "<> < <="}, {num(-1), num(-2), "<> > >="}, {num(least), num(greatest), "<> < <="}, {num(greatest), num(least), "<> > >="}, {num(least), num(least), "= <= >="},
		{text(""), text(""), "= <= >="}, {text(""), text("\x00"), "<> < <="}, {text("a"), text("ab"), "<> < <="}, {text("b"), text("ab"), "<> > >="}, {text("a"), text("B"), "<> > >="}, {text("10"), text("9"), "<> < <="}, {text("\xff"), text("z"), "<> > >="}, {raw("a"), raw("a"), "= <= >="}, {raw("\x01"), raw("\x00\xff"), "<> > >="}, {raw(""), raw("\x00"), "<> < <="},
	} {
		for sign := range holds {
			yes := truth(slices.Contains(strings.Fields(c.true), sign))
			wantBinary(t, c.a, sign, c.b, yes, impl.OK)
			wantBinary(t, c.a, sign, impl.Value{}, impl.Value{}, impl.OK)
			wantBinary(t, impl.Value{}, sign, c.b, impl.Value{}, impl.OK)
		}
	}
	for sign := range holds {
		wantBinary(t, impl.Value{}, sign, impl.Value{}, impl.Value{}, impl.OK)
	}
}

func TestNullInSigns(t *testing.T) {
	null := impl.Value{}
	for _, sign := range []string{"+", "-", "*", "/", "%"} {
		for _, v := range append(valuesOfType(impl.VaInt), null) {
			wantBinary(t, null, sign, v, null, impl.OK) // by 0, too
			wantBinary(t, v, sign, null, null, impl.OK)
		}
	}
	wantUnary(t, "-", null, null, impl.OK)
	for _, v := range someValues() {
		wantUnary(t, "isnull", v, truth(v == null), impl.OK)
		wantUnary(t, "isnotnull", v, truth(v != null), impl.OK)
	}
}

func TestSignsOfInts(t *testing.T) {
	null := impl.Value{}
	for _, c := range []struct {
		a    int
		sign string
		b    int
		want impl.Value
		code int
	}{
		{7, "+", -9, num(-2), 0}, {7, "-", 9, num(-2), 0}, {7, "*", -9, num(-63), 0}, {-7, "/", 2, num(-3), 0}, {-7, "%", 2, num(-1), 0}, {7, "%", -2, num(1), 0},
		{greatest, "+", 1, null, impl.ErrRange}, {least, "+", -1, null, impl.ErrRange}, {greatest, "-", -1, null, impl.ErrRange}, {least, "-", 1, null, impl.ErrRange}, {0, "-", least, null, impl.ErrRange}, {-1, "-", least, num(greatest), 0}, {least, "-", least, num(0), 0}, {greatest, "-", least, null, impl.ErrRange}, {least, "-", -1, num(least + 1), 0},
		{least, "*", -1, null, impl.ErrRange}, {-1, "*", least, null, impl.ErrRange}, {1 << 32, "*", 1 << 31, null, impl.ErrRange}, {least, "*", 1, num(least), 0},
		{1, "/", 0, null, impl.ErrZero}, {0, "/", 0, null, impl.ErrZero}, {1, "%", 0, null, impl.ErrZero}, {least, "%", 0, null, impl.ErrZero}, {least, "/", 0, null, impl.ErrZero}, {least, "/", -1, null, impl.ErrRange}, {least, "%", -1, num(0), 0}, {least, "%", 1, num(0), 0}, {least, "/", 1, num(least), 0}, {greatest, "%", -1, num(0), 0},
	} {
		wantBinary(t, num(c.a), c.sign, num(c.b), c.want, c.code)
	}
	for _, c := range [][2]int{{0, 0}, {5, -5}, {-5, 5}, {greatest, -greatest}, {-greatest, greatest}} {
		wantUnary(t, "-", num(c[0]), num(c[1]), impl.OK)
	}
	wantUnary(t, "-", num(least), null, impl.ErrRange)
}

// Each sign has each type and null on its left, and on its right.
func TestTypesInSigns(t *testing.T) {
	for _, a := range someValues() {
		isInt, isBool := a.Kind == impl.VaInt, a.Kind == impl.VaBool
		null := a.Kind == impl.VaNull
		_, got := impl.UnaryValue("-", a)
		if (got == impl.ErrType) == (isInt || null) {
			t.Error("- of", a, got)
		}
		_, got = impl.UnaryValue("not", a)
		if (got == impl.ErrType) == (isBool || null) {
			t.Error("not of", a, got)
		}
		for _, b := range someValues() {
			for _, sign := range binarySigns {
				fit := a.Kind == b.Kind || null || b.Kind == impl.VaNull
				if wants := map[bool]int{true: impl.VaBool, false: impl.VaInt}[sign == "and" || sign == "or"]; holds[sign] == nil {
					fit = (a.Kind == wants || null) && (b.Kind == wants || b.Kind == impl.VaNull)
				}
				v, got := impl.BinaryValue(sign, a, b)
				if (got == impl.ErrType) == fit || got == impl.ErrType && v != (impl.Value{}) {
					t.Error(a, sign, b, "is", v, got)
				}
			}
		}
	}
}

func TestSignsByTheWords(t *testing.T) {
	list := append(risingValues(), wrongValues()...)
	for _, a := range list {
		for _, name := range slices.Concat(unarySigns, binarySigns, noSigns()) {
			want, wanted := signByWords("unary", name, a)
			wantUnary(t, name, a, want, wanted)
		}
		for _, b := range list {
			for _, sign := range binarySigns {
				want, wanted := signByWords("binary", sign, a, b)
				wantBinary(t, a, sign, b, want, wanted)
			}
		}
	}
}

// A sign or a value that is not right counts ahead of types, a long text ahead of all.
func TestSignsThatAreNone(t *testing.T) {
	values := append(someValues(), wrongValues()...)
	for _, a := range values {
		for _, sign := range slices.Concat(noSigns(), aggregates, []string{"not", "isnull", "isnotnull"}) {
			wantBinary(t, a, sign, num(1), impl.Value{}, impl.ErrBad)
			wantBinary(t, text("a"), sign, a, impl.Value{}, impl.ErrBad)
		}
		for _, name := range slices.Concat(noSigns(), aggregates, []string{"and", "or", "=", "<", "+", "*", "%"}) {
			wantUnary(t, name, a, impl.Value{}, impl.ErrBad)
		}
		for _, long := range longTexts() {
			wantBinary(t, a, long, num(1), impl.Value{}, impl.ErrLong)
			wantBinary(t, text("a"), long, a, impl.Value{}, impl.ErrLong)
			wantUnary(t, long, a, impl.Value{}, impl.ErrLong)
		}
	}
	for _, wrong := range wrongValues() {
		for _, a := range values {
			for _, sign := range binarySigns {
				wantBinary(t, wrong, sign, a, impl.Value{}, impl.ErrBad)
				wantBinary(t, a, sign, wrong, impl.Value{}, impl.ErrBad)
			}
		}
		for _, name := range unarySigns {
			wantUnary(t, name, wrong, impl.Value{}, impl.ErrBad)
		}
	}
	full, over := text(strings.Repeat("a", impl.MaxCell)), text(strings.Repeat("a", impl.MaxCell+1))
	wantBinary(t, full, "=", full, flag(1), impl.OK)
	wantBinary(t, full, "<", over, impl.Value{}, impl.ErrBad)
	wantBinary(t, over, "+", flag(1), impl.Value{}, impl.ErrBad)
	wantUnary(t, "isnull", full, flag(0), impl.OK)
	wantUnary(t, "isnull", over, impl.Value{}, impl.ErrBad)
}

// made is a value that has no fault.
func made(t *testing.T, sign string, a, b impl.Value) impl.Value {
	t.Helper()
	v, got := impl.BinaryValue(sign, a, b)
	code(t, sign, got, impl.OK)
	return v
}

func turned(t *testing.T, a impl.Value) impl.Value {
	t.Helper()
	v, got := impl.UnaryValue("not", a)
	code(t, "not", got, impl.OK)
	return v
}

func TestDeMorgan(t *testing.T) {
	three := []impl.Value{flag(0), flag(1), {}}
	for _, a := range three {
		if turned(t, turned(t, a)) != a || made(t, "and", a, a) != a || made(t, "or", a, a) != a {
			t.Error("twice", a)
		}
		for _, b := range three {
			if turned(t, made(t, "and", a, b)) != made(t, "or", turned(t, a), turned(t, b)) || turned(t, made(t, "or", a, b)) != made(t, "and", turned(t, a), turned(t, b)) {
				t.Error("De Morgan", a, b)
			}
			if made(t, "and", a, b) != made(t, "and", b, a) || made(t, "or", a, b) != made(t, "or", b, a) {
				t.Error("the other way round", a, b)
			}
			for _, c := range three {
				if made(t, "and", a, made(t, "or", b, c)) != made(t, "or", made(t, "and", a, b), made(t, "and", a, c)) {
					t.Error("parted", a, b, c)
				}
			}
		}
	}
}

// Null stands for what is not known: `and`, `or` and `not` tell a bool just where it is the same whatever null may be.
func TestNullIsWhatIsNotKnown(t *testing.T) {
	may := func(v impl.Value) []impl.Value {
		if v == (impl.Value{}) {
			return []impl.Value{flag(0), flag(1)}
		}
		return []impl.Value{v}
	}
	three := []impl.Value{flag(0), flag(1), {}}
	for _, sign := range []string{"and", "or"} {
		for _, a := range three {
			for _, b := range three {
				seen := map[impl.Value]int{}
				for _, x := range may(a) {
					for _, y := range may(b) {
						seen[made(t, sign, x, y)]++
					}
				}
				want := impl.Value{}
				if len(seen) == 1 {
					for want = range seen {
					}
				}
				wantBinary(t, a, sign, b, want, impl.OK)
			}
		}
	}
}

// A comparison and its opposite, and both with their sides changed.
func TestComparisonsAndTheirOpposites(t *testing.T) {
	opposite := map[string]string{"=": "<>", "<": ">=", "<=": ">"}
	other := map[string]string{"=": "=", "<>": "<>", "<": ">", "<=": ">=", ">": "<", ">=": "<="}
	for _, a := range risingValues() {
		for _, b := range risingValues() {
			if a.Kind != b.Kind && a.Kind != impl.VaNull && b.Kind != impl.VaNull {
				continue
			}
			for sign, against := range opposite {
				if made(t, sign, a, b) != turned(t, made(t, against, a, b)) || turned(t, made(t, sign, a, b)) != made(t, against, a, b) {
					t.Error("opposite", a, sign, b)
				}
			}
			for sign, back := range other {
				if made(t, sign, a, b) != made(t, back, b, a) {
					t.Error("sides changed", a, sign, b)
				}
			}
			if made(t, "<=", a, b) != made(t, "or", made(t, "<", a, b), made(t, "=", a, b)) {
				t.Error("less or like", a, b)
			}
		}
	}
}
