package tests

import (
	"cmp"
	"math"
	"math/big"
	"slices"
	"strings"
	"testing"

	"loop.example/g00208/impl"
)

const (
	least    = math.MinInt
	greatest = math.MaxInt
)

var (
	unarySigns  = strings.Fields("- not isnull isnotnull")
	binarySigns = strings.Fields("or and = <> < <= > >= + - * / %")
	aggregates  = strings.Fields("count sum min max")
)

// noSigns are texts that are no sign between two, none ahead of one, and no aggregate's name.
func noSigns() []string {
	return []string{
		"", " ", "AND", "Or", "xor", "==", "!=", "=>", "=<", "< =", "<<", "= ", " =", "=\x00", "++", "--", "/ ", "%%", "^", "!", "~", "(", ",", ".", "as", "is", "is null", "is not null", "null", "true", "NOT", "no", "Count", "SUM", "avg", "minimum", "count(*)", "sum ",
		strings.Repeat("=", impl.MaxText), strings.Repeat("\xff", impl.MaxText),
	}
}

func longTexts() []string {
	return []string{strings.Repeat("=", impl.MaxText+1), strings.Repeat("-", impl.MaxText+1), "count" + strings.Repeat(" ", impl.MaxText)}
}

// wholeNumbers are the ends of all ints, those at which sums, products and quotients go beyond these, and those beside them.
func wholeNumbers() []int {
	list := []int{least, least + 1, least + 2, greatest - 2, greatest - 1, greatest}
	for _, n := range []int{0, 3, 7, 10, 1 << 16, 1 << 31, 1 << 32, 3037000499, 3037000500, 1 << 62, greatest / 2, greatest / 3, greatest / 7, 999999999999999999} {
		for off := -2; off <= 2; off++ {
			list = append(list, n+off, -n-off)
		}
	}
	slices.Sort(list)
	return slices.Compact(list)
}

// rolledInt is as often short as long.
func rolledInt(d *dice) int {
	n := d.below(1<<31)<<33 ^ d.below(1<<31)<<16 ^ d.below(1<<31)
	return n >> (d.below(2) * d.below(64))
}

// reckonedByWords is worked out with numbers of any size.
func reckonedByWords(sign string, a, b int) (int, int) {
	if b == 0 && (sign == "/" || sign == "%") {
		return 0, impl.ErrZero
	}
	work := map[string]func(z, x, y *big.Int) *big.Int{"+": (*big.Int).Add, "-": (*big.Int).Sub, "*": (*big.Int).Mul, "/": (*big.Int).Quo, "%": (*big.Int).Rem}[sign]
	n := work(new(big.Int), big.NewInt(int64(a)), big.NewInt(int64(b)))
	if !n.IsInt64() {
		return 0, impl.ErrRange
	}
	return int(n.Int64()), impl.OK
}

func valueRight(v impl.Value) bool {
	switch v.Kind {
	case 0:
		return v.N == 0 && v.T == ""
	case 1:
		return (v.N == 0 || v.N == 1) && v.T == ""
	case 2:
		return v.T == ""
	case 3, 4:
		return v.N == 0 && len(v.T) < 61
	}
	return false
}

func allRightValues(list []impl.Value) bool {
	return !slices.ContainsFunc(list, func(v impl.Value) bool { return !valueRight(v) })
}

func orderOfValues(a, b impl.Value) int {
	return cmp.Or(cmp.Compare(a.Kind, b.Kind), cmp.Compare(a.N, b.N), strings.Compare(a.T, b.T))
}

// holds has the orders of two values of which a sign is true.
var holds = map[string][]int{"=": {0}, "<>": {-1, 1}, "<": {-1}, "<=": {-1, 0}, ">": {1}, ">=": {0, 1}}

// logic has what `and` and `or` are of two: f is false, t true, n null.
var logic = map[string]string{"ff": "ff", "ft": "ft", "fn": "fn", "tf": "ft", "tt": "tt", "tn": "nt", "nf": "fn", "nt": "nt", "nn": "nn"}

func letterOfBool(v impl.Value) string {
	if v.Kind == impl.VaNull {
		return "n"
	}
	return []string{"f", "t"}[v.N]
}

func boolOfLetter(letter byte) impl.Value {
	return map[byte]impl.Value{'f': flag(0), 't': flag(1)}[letter]
}

// operandsByWords says that values are of the types that a sign wants; null is of any.
func operandsByWords(signature string, values []impl.Value) bool {
	wants := strings.Fields(strings.ReplaceAll(signature, "like", typeNames[values[0].Kind]))[1:]
	for i, v := range values {
		if is := typeNames[v.Kind]; is != "null" && !slices.Contains([]string{is, "any", "null"}, wants[i]) {
			return false
		}
	}
	return true
}

// signByWords is what BinaryValue ("binary") and UnaryValue ("unary") are to answer.
func signByWords(word, name string, values ...impl.Value) (impl.Value, int) {
	signature, found := signatures[word+" "+name]
	switch {
	case len(name) > 65536:
		return impl.Value{}, impl.ErrLong
	case !found || !allRightValues(values):
		return impl.Value{}, impl.ErrBad
	case !operandsByWords(signature, values):
		return impl.Value{}, impl.ErrType
	}
	return madeByWords(name, values)
}

// madeByWords is of values that are right, and of the types that the sign wants.
func madeByWords(name string, values []impl.Value) (impl.Value, int) {
	a, b := values[0], values[len(values)-1]
	switch name {
	case "isnull":
		return truth(a.Kind == impl.VaNull), impl.OK
	case "isnotnull":
		return truth(a.Kind != impl.VaNull), impl.OK
	case "and", "or":
		letter := logic[letterOfBool(a)+letterOfBool(b)][strings.Index("ao", name[:1])]
		return boolOfLetter(letter), impl.OK
	}
	if a.Kind == impl.VaNull || b.Kind == impl.VaNull {
		return impl.Value{}, impl.OK
	}
	if list, compares := holds[name]; compares {
		return truth(slices.Contains(list, orderOfValues(a, b))), impl.OK
	}
	if name == "not" {
		return flag(1 - a.N), impl.OK
	}
	if len(values) == 1 {
		a = num(0)
	}
	n, code := reckonedByWords(name, a.N, b.N)
	if code != impl.OK {
		return impl.Value{}, code
	}
	return num(n), impl.OK
}

func rowRight(scope []impl.Field, r []impl.Value) bool {
	if len(scope) != len(r) || !allRightValues(r) {
		return false
	}
	for i, f := range scope {
		if r[i].Kind != impl.VaNull && r[i].Kind != f.Type {
			return false
		}
	}
	return true
}

// evalByWords is what EvalRow is to answer: nodes are worked out in the order in which types are told, each once; the first fault counts.
func evalByWords(e impl.Tree, scope []impl.Field, r []impl.Value) (impl.Value, int) {
	if len(scope) > 4096 || len(r) > 4096 {
		return impl.Value{}, impl.ErrLong
	}
	if _, code, _ := typedByWords(e, scope); code != impl.OK {
		return impl.Value{}, code
	}
	if slices.ContainsFunc(nodesOf(&e), func(p *impl.Tree) bool { return letterOf(*p) == 'a' }) || !rowRight(scope, r) {
		return impl.Value{}, impl.ErrBad
	}
	values := map[*impl.Tree]impl.Value{}
	for _, p := range kidsFirst(&e) {
		v, code := p.Val, impl.OK
		switch letterOf(*p) {
		case 'c':
			v = r[foundByWords(scope, p.Of, p.Name)[0]]
		case 'b':
			v, code = madeByWords(p.Name, []impl.Value{values[&p.Kids[0]], values[&p.Kids[len(p.Kids)-1]]}[:len(p.Kids)])
		}
		if code != impl.OK {
			return impl.Value{}, code
		}
		values[p] = v
	}
	return values[&e], impl.OK
}

// aggByWords is what AggValue is to answer.
func aggByWords(name string, list []impl.Value) (impl.Value, int) {
	if len(name) > 65536 || len(list) > 4096 {
		return impl.Value{}, impl.ErrLong
	}
	if !slices.Contains(aggregates, name) || !allRightValues(list) {
		return impl.Value{}, impl.ErrBad
	}
	var told []impl.Value
	sum, ints, beyond := new(big.Int), 0, 0
	for _, v := range list {
		if v.Kind == impl.VaNull {
			continue
		}
		told = append(told, v)
		if v.Kind == impl.VaInt {
			ints++
		}
		if sum.Add(sum, big.NewInt(int64(v.N))); !sum.IsInt64() {
			beyond++
		}
	}
	slices.SortFunc(told, orderOfValues)
	switch {
	case name == "count":
		return num(len(told)), impl.OK
	case name == "sum" && ints < len(told):
		return impl.Value{}, impl.ErrType
	case name == "sum" && beyond > 0:
		return impl.Value{}, impl.ErrRange
	case len(told) == 0:
		return impl.Value{}, impl.OK
	case name == "sum":
		return num(int(sum.Int64())), impl.OK
	case name == "min":
		return told[0], impl.OK
	}
	return told[len(told)-1], impl.OK
}

// wantBinary asks for a value or for a code, and with a code for nothing else; so do those that follow.
func wantBinary(t *testing.T, a impl.Value, sign string, b, want impl.Value, wanted int) {
	t.Helper()
	v, got := impl.BinaryValue(sign, a, b)
	if v != want || got != wanted {
		t.Errorf("BinaryValue %.100v %.50q %.100v: %.100v %s, want %.100v %s", a, sign, b, v, impl.CodeWord(got), want, impl.CodeWord(wanted))
	}
}

func wantUnary(t *testing.T, name string, a, want impl.Value, wanted int) {
	t.Helper()
	v, got := impl.UnaryValue(name, a)
	if v != want || got != wanted {
		t.Errorf("UnaryValue %.50q %.100v: %.100v %s, want %.100v %s", name, a, v, impl.CodeWord(got), want, impl.CodeWord(wanted))
	}
}

func wantEval(t *testing.T, e impl.Tree, scope []impl.Field, r []impl.Value, want impl.Value, wanted int) {
	t.Helper()
	v, got := impl.EvalRow(e, scope, r)
	if v != want || got != wanted {
		t.Errorf("EvalRow %.500s of %.300v: %.100v %s, want %.100v %s", drawn(e), r, v, impl.CodeWord(got), want, impl.CodeWord(wanted))
	}
}

func wantAggregate(t *testing.T, name string, list []impl.Value, want impl.Value, wanted int) {
	t.Helper()
	v, got := impl.AggValue(name, list)
	if v != want || got != wanted {
		t.Errorf("AggValue %.50q %.300v: %.100v %s, want %.100v %s", name, list, v, impl.CodeWord(got), want, impl.CodeWord(wanted))
	}
}

// valuesOfType are some right ones, without null.
func valuesOfType(kind int) []impl.Value {
	return [][]impl.Value{
		nil, {flag(0), flag(1)}, {num(least), num(least + 1), num(-7), num(-2), num(-1), num(0), num(1), num(2), num(7), num(1 << 32), num(greatest - 1), num(greatest)},
		{text(""), text("\x00"), text("a"), text("a\x00"), text("b"), text("\xff"), text(strings.Repeat("b", impl.MaxCell))}, {raw(""), raw("\x00"), raw("a"), raw("ab"), raw("\xff")},
	}[kind]
}

// rolledLine is a row of fields; one value in so many is null.
func rolledLine(d *dice, scope []impl.Field, nulls int) []impl.Value {
	r := make([]impl.Value, 0, len(scope)+1)
	for _, f := range scope {
		list := append(valuesOfType(f.Type), impl.Value{})
		if len(list) > 1 && d.below(nulls) > 0 {
			list = list[:len(list)-1]
		}
		v := list[d.below(len(list))]
		if v.Kind == impl.VaInt && d.below(2) == 0 {
			v = num(d.below(7) - 3)
		}
		r = append(r, v)
	}
	return r
}
