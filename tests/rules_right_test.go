package tests

import (
	"slices"
	"strings"
	"testing"

	"loop.example/g00208/impl"
)

func TestRuleConstants(t *testing.T) {
	if impl.MaxRules != 8 || impl.MaxGuards != 4 || impl.MaxFuel != 50 {
		t.Error("bounds")
	}
	if impl.EvInsert != 1 || impl.EvUpdate != 2 || impl.EvDelete != 3 {
		t.Error("events")
	}
}

func TestRulesThatAreRight(t *testing.T) {
	for _, words := range []string{
		"a on cases insert 0 when true", "a on cases update 1 when false", "a on cases delete 100 when null", "select on notes insert 7 when true", "_ on cases insert 99 when flag", longName + " on cases insert 1 when flag is not null",
		"a on cases insert 1 when cases.n > 3 and not cases.flag", "a on cases insert 1 when status = 'open' or n is null", "a on cases update 1 when 1 / 0 = n % 0", "a on cases update 1 when null and true", "a on cases update 1 when null = null", "a on log insert 1 when id = at and log.what <> ''", "a on marks delete 1 when mark = x'00'",
		"a on cases insert 1 when true set n = 0", "a on cases update 1 when true set flag = n > 3, status = 'x', n = cases.id", "a on cases insert 1 when true set status = null, n = null, flag = null", "a on log insert 1 when true set n = null", "a on log update 1 when true set n = at, what = what", "a on marks insert 1 when true set other = word",
		"a on cases insert 1 when true into notes (id, status)", "a on cases delete 1 when true into notes (id, null)", "a on cases update 1 when true into cases (id + 1, status, n, flag)", "a on cases insert 1 when true into log (id, n, null, 1 / 0)", "a on cases insert 1 when true into notes (null, null)", "a on marks insert 1 when true into marks (mark, 'a', other)",
		"a on cases update 1 when n < 3 set n = n + 1 into log (id, n, status, 0)", "a on cases insert 1 when flag set flag = not flag, n = -n into marks (x'00', status, 'it''s')",
	} {
		wantRule(t, rule(words), ruledTables(), true)
		wantRule(t, rule(words), withoutIndexes(ruledTables()), true)
		for _, list := range [][]impl.Table{nil, {}, append(ruledTables(), ruledTables()[0]), manyTables(impl.MaxTables + 1), manyTables(impl.MaxList), manyTables(impl.MaxList + 1)} {
			wantRule(t, rule(words), list, false)
		}
	}
	wantRule(t, rule("a on log insert 1 when id = at"), ruledTables()[1:2], true)
	wantRule(t, rule("a on cases insert 1 when true into log (id, n, null, 0)"), ruledTables()[:1], false)
	wantRule(t, rule("a on cases insert 1 when true into log (id, n, null, 0)"), ruledTables()[:2], true)
}

// Each is wrong for one reason.
func TestRulesThatAreNotRight(t *testing.T) {
	for _, words := range []string{
		"a on none insert 1 when true", "a on Cases insert 1 when true", "a on case insert 1 when true", "a on cases insert -1 when true", "a on cases insert 101 when true", "a on cases update 1000 when true", "a on cases query 1 when true",
		"a on cases insert 1 when 1", "a on cases insert 1 when n", "a on cases insert 1 when 'true'", "a on cases insert 1 when x'01'", "a on cases insert 1 when n + 1", "a on cases insert 1 when none", "a on cases insert 1 when notes.id = 1", "a on cases insert 1 when c.n = 1", "a on cases insert 1 when n = 'a'", "a on cases insert 1 when n and true", "a on cases insert 1 when count(*) = 1", "a on cases insert 1 when count(n) > 0", "a on cases insert 1 when flag or sum(n) = 1", "a on cases insert 1 when max(flag)", "a on cases insert 1 when min(flag) is null", "a on notes insert 1 when status = 'a'",
		"a on cases insert 1 when true set id = 1", "a on log insert 1 when true set id = 1", "a on log insert 1 when true set at = 1", "a on log insert 1 when true set n = 1, at = 1", "a on cases insert 1 when true set n = 1, n = 1", "a on cases insert 1 when true set n = 1, flag = true, n = 2", "a on cases insert 1 when true set none = 1", "a on cases insert 1 when true set n = 'a'", "a on cases insert 1 when true set status = 1", "a on cases insert 1 when true set flag = n", "a on marks insert 1 when true set other = mark", "a on cases insert 1 when true set n = none", "a on cases insert 1 when true set n = 1, flag = n = 'a'", "a on cases insert 1 when true set n = -flag", "a on cases insert 1 when true set n = notes.id", "a on cases delete 1 when true set n = 1", "a on cases delete 1 when true set n = null", "a on cases delete 1 when true set n = 1 into notes (1, null)",
		"a on cases insert 1 when true into none (1)", "a on cases insert 1 when true into notes (1)", "a on cases insert 1 when true into notes (1, null, 1)", "a on cases insert 1 when true into notes (null)", "a on cases insert 1 when true into cases (1, 'a', 2)", "a on cases insert 1 when true into notes (status, 'a')", "a on cases insert 1 when true into notes (1, 2)", "a on cases insert 1 when true into notes (id, id)", "a on cases insert 1 when true into notes (1, what)", "a on cases insert 1 when true into notes (notes.id, 'a')", "a on cases insert 1 when true into notes (-status, 'a')", "a on cases insert 1 when true into marks ('a', 'a', 'a')", "a on cases insert 1 when true into cases (1, x'', 1, true)",
	} {
		wantRule(t, rule(words), ruledTables(), false)
	}
}

// An aggregate has no row of its own, wherever it stands.
func TestRulesWithAggregates(t *testing.T) {
	for _, e := range []string{"count(*)", "count(n)", "sum(n)", "max(n) + 1", "n - min(id)"} {
		r := rule("a on cases insert 1 when true set n = 1 into notes (1, 'a')")
		wantRule(t, r, ruledTables(), true)
		r.Sets[0].Expr = parsedExpr(e)
		wantRule(t, r, ruledTables(), false)
		r = rule("a on cases insert 1 when true set n = 1 into notes (1, 'a')")
		r.Exprs[0] = parsedExpr(e)
		wantRule(t, r, ruledTables(), false)
		r = rule("a on cases insert 1 when true set n = 1 into notes (1, 'a')")
		r.When = parsedExpr(e + " = 1")
		wantRule(t, r, ruledTables(), false)
	}
}

func TestPartsOfRulesThatDoNotBelong(t *testing.T) {
	base := func() impl.Rule {
		return rule("a on cases insert 1 when true set n = 1 into notes (1, 'a')")
	}
	check := func(want bool, bend func(*impl.Rule)) {
		t.Helper()
		r := base()
		bend(&r)
		wantRule(t, r, ruledTables(), want)
	}
	for _, name := range append(noNames(), strings.Repeat("n", impl.MaxText+1)) {
		check(false, func(r *impl.Rule) { r.Name = name })
		check(false, func(r *impl.Rule) { r.Table = name })
		if name != "" {
			check(false, func(r *impl.Rule) { r.Into = name })
		}
	}
	for _, name := range append(slices.Clone(statementWords), oddNames...) { // chapter 1's names
		check(true, func(r *impl.Rule) { r.Name = name })
	}
	for event, want := range map[int]bool{least: false, -1: false, 0: false, 1: true, 2: true, 3: false, 4: false, 256 + 1: false, greatest: false} {
		check(want, func(r *impl.Rule) { r.Event = event })
		check(want || event == 3, func(r *impl.Rule) { r.Event, r.Sets = event, nil })
	}
	for priority, want := range map[int]bool{least: false, -1: false, 0: true, 1: true, 99: true, 100: true, 101: false, 256: false, greatest: false} {
		check(want, func(r *impl.Rule) { r.Priority = priority })
	}
	for column, want := range map[int]bool{least: false, -1: false, 0: false, 1: false, 2: true, 3: false, 4: false, 256 + 2: false, greatest: false} {
		check(want, func(r *impl.Rule) { r.Sets[0].Column = column })
		check(column > 0 && column < 4, func(r *impl.Rule) {
			r.Sets[0] = impl.Setting{Column: column, Expr: lit(impl.Value{})}
		})
	}
	check(false, func(r *impl.Rule) { r.Into = "" })
	check(false, func(r *impl.Rule) { r.Exprs = nil })
	check(true, func(r *impl.Rule) { r.Into, r.Exprs = "", nil })
	check(true, func(r *impl.Rule) { r.Into, r.Exprs = "", []impl.Tree{} })
	check(true, func(r *impl.Rule) { r.Sets = []impl.Setting{} })
	check(false, func(r *impl.Rule) { r.Into, r.Exprs = "", []impl.Tree{lit(impl.Value{})} })
	check(false, func(r *impl.Rule) { r.When = impl.Tree{} })
	check(false, func(r *impl.Rule) { r.Sets[0].Expr = impl.Tree{} })
	check(false, func(r *impl.Rule) { r.Exprs[1] = impl.Tree{} })
	check(false, func(r *impl.Rule) { r.When = where(lit(flag(1))) })
	check(false, func(r *impl.Rule) { r.When = parsed("select true from t") })
	check(false, func(r *impl.Rule) { r.When = lit(num(-1)) })
	check(false, func(r *impl.Rule) { r.When = lit(flag(2)) })
	check(false, func(r *impl.Rule) { r.Sets[0].Expr = lit(num(-1)) })
	check(false, func(r *impl.Rule) { r.Exprs[1] = lit(text(strings.Repeat("a", impl.MaxCell+1))) })
	if impl.RuleOK(impl.Rule{}, ruledTables()) || impl.RuleOK(impl.Rule{}, nil) {
		t.Error("nothing is a rule")
	}
}

// Expressions, sets and Exprs at their bounds, and one more.
func TestHowGreatRulesMayBe(t *testing.T) {
	wide := tableOf("wide", append(cols("id int"), manyColumns(impl.MaxCells, 0)[1:]...), 1)
	list := roomyTables([]impl.Table{table("a", "id int, x bool null", 1), wide})
	r := impl.Rule{Name: "r", Table: "wide", Event: impl.EvUpdate, When: lit(flag(1))}
	for i := 1; i < impl.MaxCells; i++ {
		r.Sets = append(r.Sets, impl.Setting{Column: i, Expr: lit(impl.Value{})})
	}
	wantRule(t, r, list, true)
	more := r
	more.Sets = append(slices.Clone(r.Sets), impl.Setting{Column: 0, Expr: lit(impl.Value{})})
	wantRule(t, more, list, false)
	for _, size := range []int{impl.MaxCells + 1, impl.MaxList, impl.MaxList + 1} {
		more.Sets = slices.Repeat([]impl.Setting{{Column: 1, Expr: lit(impl.Value{})}}, size)
		wantRule(t, more, list, false)
	}
	for size := range 2*impl.MaxCells + 1 {
		some := r
		some.Into, some.Exprs = "wide", slices.Repeat([]impl.Tree{lit(impl.Value{})}, size)
		wantRule(t, some, list, size == impl.MaxCells)
		some.Into = "a"
		wantRule(t, some, list, size == 2)
	}
	many := r
	many.Into, many.Exprs = "wide", make([]impl.Tree, impl.MaxList+1)
	wantRule(t, many, list, false)
	condition := func(deep, size int) impl.Tree {
		e := lit(flag(1))
		for range deep - 1 {
			e = unary("not", e)
		}
		for impl.TreeSize(e) < size {
			e = pair(e, "and", unary("isnull", field("id")))
		}
		return e
	}
	for deep, want := range map[int]bool{1: true, impl.MaxDeep - 1: true, impl.MaxDeep: true, impl.MaxDeep + 1: false, 1000: false} {
		some := r
		some.When = condition(deep, 1)
		wantRule(t, some, list, want)
		some = rule("r on cases insert 1 when true set flag = true into cases (1, null, 2, true)")
		some.Sets[0].Expr = condition(deep, 1)
		wantRule(t, some, ruledTables(), want)
		some.Sets, some.Exprs[3] = nil, condition(deep, 1)
		wantRule(t, some, ruledTables(), want)
	}
	flat := lit(flag(1)) // of 3, 7, .. nodes
	for range 5 {
		flat = pair(flat, "or", flat)
	}
	most := pair(pair(flat, "or", pair(flat.Kids[0], "and", flat.Kids[0].Kids[0])), "and", lit(flag(0)))
	for impl.TreeSize(most) < impl.MaxTree {
		most = unary("not", most)
	}
	some := r
	some.When = most
	wantRule(t, some, list, impl.TreeSize(most) == impl.MaxTree)
	some.When = unary("not", most)
	wantRule(t, some, list, false)
}

// Trees that have themselves within, and such as are far beyond all bounds.
func TestRulesOfGreatTrees(t *testing.T) {
	knot := make([]impl.Tree, 2)
	knot[0], knot[1] = impl.Tree{Kind: impl.NdUnary, Name: "not", Kids: knot[:1]}, impl.Tree{Kind: impl.NdBinary, Name: "and", Kids: knot}
	twice := []impl.Tree{lit(flag(1)), lit(flag(1))}
	for range 40 {
		twice = slices.Repeat([]impl.Tree{{Kind: impl.NdBinary, Name: "and", Kids: twice}}, 2)
	}
	for _, e := range []impl.Tree{knot[0], knot[1], twice[0]} {
		for at := range 3 {
			r := rule("a on cases insert 1 when true set flag = true into cases (1, null, 2, true)")
			*[]*impl.Tree{&r.When, &r.Sets[0].Expr, &r.Exprs[3]}[at] = e
			if impl.RuleOK(r, ruledTables()) {
				t.Error("a great tree is right", at)
			}
			if names, code := impl.MatchRules([]impl.Rule{r}, ruledTables(), changeOf("delete notes: 1, null")); len(names) != 0 || code != impl.ErrBad {
				t.Error("MatchRules", names, code)
			}
			if data, o, code := impl.Execute(parsed("delete from notes"), ruledTables(), ruledData(), []impl.Rule{r}, nil, 1); len(data)+len(o.Changes)+len(o.Fired) != 0 || code != impl.ErrBad {
				t.Error("Execute", data, o, code)
			}
		}
		for _, n := range []impl.Tree{deleteFrom("cases", where(e)), updateOf("cases", setTo("flag", e)), insertInto("cases", lit(num(1)), lit(impl.Value{}), lit(num(1)), e)} {
			if list, code := impl.StatementChanges(n, ruledTables(), ruledData()); len(list) != 0 || code != impl.ErrBad {
				t.Error("StatementChanges", code)
			}
			if data, o, code := impl.Execute(n, ruledTables(), ruledData(), nil, nil, 1); len(data)+len(o.Changes)+len(o.Fired) != 0 || code != impl.ErrBad {
				t.Error("Execute", data, o, code)
			}
		}
	}
}

func TestGuardsThatAreRight(t *testing.T) {
	long := strings.Repeat("s", impl.MaxCell)
	for _, g := range []impl.Guard{
		guard("cases", 1), guard("cases", 1, ">open", "open>done"), guard("log", 2, ">a", ">a", "a>a"), guard("marks", 1, ">"), guard("marks", 2, "a>"), guard("notes", 1, "\x00>\xff", "it's>''"), guard("cases", 1, long+">"+long), guard("cases", 1, slices.Repeat([]string{"a>b"}, 20)...), {Table: "notes", Column: 1, Steps: []impl.Entry{}},
	} {
		wantGuard(t, g, ruledTables(), true)
		wantGuard(t, g, withoutIndexes(ruledTables()), true)
		for _, list := range [][]impl.Table{nil, {}, append(ruledTables(), ruledTables()[0]), manyTables(impl.MaxTables + 1), manyTables(impl.MaxList), manyTables(impl.MaxList + 1)} {
			wantGuard(t, g, list, false)
		}
	}
	for _, x := range ruledTables() {
		for _, column := range append(run(-2, 10), least, greatest, 256+1) {
			want := column >= 0 && column < len(x.Columns) && x.Columns[column].Type == impl.VaText
			wantGuard(t, guard(x.Name, column, ">a"), ruledTables(), want)
		}
	}
}

func TestGuardsThatAreNotRight(t *testing.T) {
	for _, name := range append(noNames(), "none", "Cases", "case", strings.Repeat("n", impl.MaxText+1)) {
		wantGuard(t, guard(name, 1, ">a"), ruledTables(), false)
	}
	wantGuard(t, impl.Guard{}, ruledTables(), false)
	for size, want := range map[int]bool{0: true, 1: true, 19: true, 20: true, 21: false, impl.MaxList: false, impl.MaxList + 1: false} {
		wantGuard(t, impl.Guard{Table: "cases", Column: 1, Steps: make([]impl.Entry, size)}, ruledTables(), want)
	}
	for size, want := range map[int]bool{0: true, impl.MaxCell - 1: true, impl.MaxCell: true, impl.MaxCell + 1: false, impl.MaxText: false, impl.MaxText + 1: false} {
		for at := range 20 {
			for _, step := range []impl.Entry{{Key: strings.Repeat("s", size)}, {Value: strings.Repeat("s", size)}} {
				g := impl.Guard{Table: "cases", Column: 1, Steps: make([]impl.Entry, 20)}
				g.Steps[at] = step
				wantGuard(t, g, ruledTables(), want)
			}
		}
	}
}
