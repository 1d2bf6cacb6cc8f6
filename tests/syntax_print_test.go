package tests

import (
	"slices"
	"strings"
	"testing"

	"loop.example/g00208/impl"
)

// wantPrinted asks for a tree's text.
func wantPrinted(t *testing.T, n impl.Tree, want string) {
	t.Helper()
	s, got := impl.PrintSql(n)
	if got != impl.OK || s != want {
		t.Errorf("%s: printed as %q %d, want %q", drawn(n), s, got, want)
	}
}

func TestPrintedStatements(t *testing.T) {
	for _, c := range statementTrees {
		wantPrinted(t, c.tree, c.text)
		if s := printByWords(c.tree); s != c.text {
			t.Errorf("%s: %s by words", c.text, s)
		}
	}
	a, b, c := field("a"), field("b"), field("c")
	for _, p := range []struct {
		e    impl.Tree
		text string
	}{
		{pair(pair(a, "or", b), "or", c), "a or b or c"}, {pair(a, "or", pair(b, "or", c)), "a or (b or c)"}, {pair(pair(a, "and", b), "or", c), "a and b or c"}, {pair(pair(a, "or", b), "and", c), "(a or b) and c"}, {pair(a, "and", pair(b, "and", c)), "a and (b and c)"},
		{unary("not", unary("not", a)), "not not a"}, {unary("not", pair(a, "and", b)), "not (a and b)"}, {unary("not", pair(a, "=", b)), "not a = b"}, {pair(unary("not", a), "and", unary("not", b)), "not a and not b"}, {pair(unary("not", a), "=", unary("not", b)), "(not a) = (not b)"}, {unary("-", unary("not", a)), "-(not a)"}, {pair(a, "+", unary("not", b)), "a + (not b)"},
		{pair(pair(a, "=", b), "=", c), "(a = b) = c"}, {pair(a, "<", pair(b, ">", c)), "a < (b > c)"}, {unary("isnull", pair(a, "=", b)), "(a = b) is null"}, {unary("isnotnull", unary("isnull", a)), "(a is null) is not null"}, {pair(unary("isnull", a), "=", unary("isnotnull", b)), "(a is null) = (b is not null)"}, {unary("isnull", pair(a, "+", b)), "a + b is null"}, {unary("isnull", unary("not", a)), "(not a) is null"}, {unary("not", unary("isnull", a)), "not a is null"}, {unary("isnull", pair(a, "or", b)), "(a or b) is null"}, {pair(unary("isnull", a), "or", b), "a is null or b"},
		{pair(pair(a, "+", b), "=", pair(b, "*", c)), "a + b = b * c"}, {pair(pair(a, "-", b), "-", c), "a - b - c"}, {pair(a, "-", pair(b, "-", c)), "a - (b - c)"}, {pair(a, "+", pair(b, "+", c)), "a + (b + c)"}, {pair(a, "+", pair(b, "*", c)), "a + b * c"}, {pair(pair(a, "+", b), "*", c), "(a + b) * c"}, {pair(a, "*", pair(b, "/", c)), "a * (b / c)"}, {pair(pair(a, "/", b), "%", c), "a / b % c"},
		{unary("-", unary("-", a)), "--a"}, {unary("-", pair(a, "*", b)), "-(a * b)"}, {pair(unary("-", a), "*", unary("-", b)), "-a * -b"}, {pair(a, "-", unary("-", b)), "a - -b"}, {pair(a, "<", unary("-", b)), "a < -b"}, {unary("-", lit(num(0))), "-0"}, {unary("-", agg("count")), "-count(*)"}, {unary("-", field("a.b")), "-a.b"}, {unary("-", lit(text("a"))), "-'a'"}, {unary("isnull", unary("-", a)), "-a is null"}, {unary("-", unary("isnull", a)), "-(a is null)"}, {unary("-", pair(a, "or", b)), "-(a or b)"},
		{agg("sum", pair(a, "or", unary("not", b))), "sum(a or not b)"}, {agg("count", unary("-", a)), "count(-a)"}, {pair(agg("min", pair(a, "=", b)), "*", agg("max", c)), "min(a = b) * max(c)"}, {lit(impl.Value{}), "null"}, {lit(raw("\x00\xab")), "x'00ab'"}, {lit(text("'")), "''''"}, {lit(text("a\nb")), "'a\nb'"}, {lit(num(999999999999999999)), "999999999999999999"},
	} {
		wantPrinted(t, queryOf(p.e), "select "+p.text+" from t")
		wantPrinted(t, query(itemAs(p.e, "e"), from("t"), falling(p.e)), "select "+p.text+" as e from t order by "+p.text+" desc")
	}
}

// operators are one expression of each operator around some others.
func operators(left, right impl.Tree) []impl.Tree {
	var list []impl.Tree
	for _, name := range signNames {
		list = append(list, pair(left, name, right))
	}
	for _, name := range unaryNames {
		list = append(list, unary(name, left))
	}
	return list
}

// withoutPair takes one pair of parentheses, which is not an aggregate's, out of a text of words and signs alone: false if there is no such pair.
func withoutPair(s string, at int) (string, bool) {
	if at > 0 && strings.IndexByte("tmnx", s[at-1]) >= 0 {
		return "", false
	}
	within := 0
	for end := at; end < len(s); end++ {
		switch s[end] {
		case '(':
			within++
		case ')':
			within--
		}
		if within == 0 {
			return s[:at] + s[at+1:end] + s[end+1:], true
		}
	}
	return "", false
}

// Expressions of every level within every other, left and right: they are read back, and no parentheses can be left out.
func TestEachLevelWithinEachOther(t *testing.T) {
	a, b := field("a"), field("b")
	inner := append(operators(a, b), a, field("a.b"), lit(num(1)), lit(text("it's")), agg("count"), agg("sum", pair(a, "or", b)))
	var list []impl.Tree
	for _, one := range inner {
		list = append(list, operators(one, field("c"))...)
		for _, name := range signNames {
			list = append(list, pair(field("c"), name, one))
		}
		for _, two := range inner {
			list = append(list, pair(one, "and", two), pair(one, "<=", two), pair(one, "-", two), pair(one, "%", two))
		}
		for _, outer := range operators(one, a) {
			list = append(list, operators(outer, b)...)
			for _, name := range signNames {
				list = append(list, pair(b, name, outer))
			}
		}
	}
	parens := 0
	for _, e := range list {
		n := queryOf(e)
		s, _ := impl.PrintSql(n)
		wantPrinted(t, n, printByWords(n))
		if back, got, _ := impl.ParseSql(s); got != impl.OK || !sameTree(back, n) {
			t.Fatalf("%s: read back as %s %d", s, drawn(back), got)
		}
		if strings.Contains(s, "'") {
			continue
		}
		for at := strings.IndexByte(s, '('); at >= 0 && at < len(s); at++ {
			if s[at] != '(' {
				continue
			}
			if less, ok := withoutPair(s, at); ok {
				parens++
				if back, got, _ := impl.ParseSql(less); got == impl.OK && sameTree(back, n) {
					t.Fatalf("%s has parentheses at %d that %s has not", s, at, less)
				}
			}
		}
	}
	if len(list) < 5000 || parens < 2000 {
		t.Error("few", len(list), parens)
	}
}

// Promise 11: a right statement is read back from its text, if this is within the bounds of a text.
func TestStatementsAreReadBack(t *testing.T) {
	d := &dice{state: 57}
	count := map[int]int{}
	for i := range 6000 {
		n := rolledStatement(d, 2+i%20)
		if !statementByWords(n) {
			continue
		}
		s, got := impl.PrintSql(n)
		code(t, drawn(n), got, impl.OK)
		if s != printByWords(n) {
			t.Fatalf("%s, want %s", s, printByWords(n))
		}
		back, got, place := impl.ParseSql(s)
		count[got]++
		_, tokenCode, _ := tokensByWords(s)
		switch {
		case got == impl.OK && (place != 0 || !sameTree(back, n)):
			t.Fatalf("%s: read back as %s", s, drawn(back))
		case got == impl.ErrMany && tokenCode == impl.OK && strings.Count(s, "(")+strings.Count(s, "not ")+strings.Count(s, "-") > 12: // it may stand within too many
		case got != tokenCode:
			t.Fatalf("%s: %d at %d", s, got, place)
		}
	}
	if count[impl.OK] < 3000 {
		t.Error("few are read back", count)
	}
}

// looseExpr is an expression's text with parentheses where none are needed.
func looseExpr(d *dice, e impl.Tree, level int) string {
	at := func(kid, level int) string { return looseExpr(d, e.Kids[kid], level) }
	t, own := exprByWords(e)
	switch {
	case e.Kind == impl.NdBinary:
		levels := levelsOf[e.Name]
		t = at(0, levels[1]) + " " + e.Name + " " + at(1, levels[2])
	case e.Kind == impl.NdUnary && e.Name == "not":
		t = "not " + at(0, 3)
	case e.Kind == impl.NdUnary && e.Name == "-":
		t = "- " + at(0, 7)
	case e.Kind == impl.NdUnary:
		t = at(0, 5) + strings.Replace(strings.Replace(" "+e.Name, " is", " is ", 1), "notnull", "not null", 1)
	case e.Kind == impl.NdAgg && len(e.Kids) > 0:
		t = e.Name + " ( " + at(0, 1) + " )"
	}
	if own < level || d.below(4) == 0 {
		return "( " + t + " )"
	}
	return t
}

// loosen lays blanks and line ends between tokens, and none where none is needed.
func loosen(d *dice, s string) string {
	laid := ""
	for i, token := range tokenTexts(s) {
		blank := []string{"", "", " ", "\n", "  ", "\n \n"}[d.below(6)]
		if next, code, _ := tokensByWords(laid + blank + token); code != impl.OK || len(next) != i+1 || next[i].At != len(laid+blank) {
			blank = " " // else the two would be one
		}
		laid += blank + token
	}
	return laid + strings.Repeat(" ", d.below(3))
}

// Texts with more blanks and parentheses than are printed: their tree is printed, and read again as itself.
func TestLooseTexts(t *testing.T) {
	d := &dice{state: 58}
	read := 0
	for range 1500 {
		n := queryOf(rolledExpr(d, 10, 8, true))
		n.Kids = append(n.Kids, where(rolledExpr(d, 6, 6, false)), rising(rolledExpr(d, 4, 4, true)))
		s := "select " + looseExpr(d, n.Kids[0].Kids[0], 1) + " from t where " + looseExpr(d, n.Kids[2].Kids[0], 1) + " order by " + looseExpr(d, n.Kids[3].Kids[0], 1)
		s = loosen(d, s)
		if len(s) > impl.MaxSource {
			continue
		}
		got, code, _ := impl.ParseSql(s)
		if code == impl.ErrMany { // parentheses within parentheses
			checkParsed(t, s)
			continue
		}
		if code != impl.OK || !sameTree(got, n) {
			t.Fatalf("%q: %d %s, want %s", s, code, drawn(got), drawn(n))
		}
		read++
		printed, _ := impl.PrintSql(got)
		if again, code, _ := impl.ParseSql(printed); code != impl.OK || !sameTree(again, n) {
			t.Fatalf("%q: printed as %q, read again as %s %d", s, printed, drawn(again), code)
		}
	}
	if read < 1000 {
		t.Error("few are read", read)
	}
}

// Right trees whose texts are beyond the bounds of a text are printed, but not read.
func TestTextsBeyondTheirBounds(t *testing.T) {
	long := lit(text(strings.Repeat("'", impl.MaxCell)))
	for _, c := range []struct {
		n           impl.Tree
		code, place int
	}{
		{insertInto("t", slices.Repeat([]impl.Tree{long}, 119)...), impl.ErrRange, 0}, {insertInto("t", slices.Repeat([]impl.Tree{long}, 7)...), impl.OK, 0}, {insertInto("t", slices.Repeat([]impl.Tree{long}, 8)...), impl.ErrRange, 0},
		{insertInto("t", slices.Repeat([]impl.Tree{field("a")}, 97)...), impl.OK, 0}, {insertInto("t", slices.Repeat([]impl.Tree{field("a")}, 98)...), impl.ErrMany, 314}, {insertInto("t", slices.Repeat([]impl.Tree{field("a")}, 119)...), impl.ErrMany, 314},
		{queryOf(chain(13)), impl.OK, 0}, {queryOf(chain(14)), impl.ErrMany, 19}, {queryOf(chain(18)), impl.ErrMany, 19}, {deleteFrom("t", where(unary("isnull", pair(chain(15), "=", field("b"))))), impl.ErrMany, 32},
	} {
		s, got := impl.PrintSql(c.n)
		if got != impl.OK || s != printByWords(c.n) {
			t.Errorf("%s: %q %d", drawn(c.n), s, got)
		}
		back, got, place := impl.ParseSql(s)
		if got != c.code || place != c.place || got == impl.OK && !sameTree(back, c.n) {
			t.Errorf("%.200s: %d at %d, want %d at %d", s, got, place, c.code, c.place)
		}
	}
}
