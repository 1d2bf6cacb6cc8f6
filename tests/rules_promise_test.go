package tests

import (
	"slices"
	"strings"
	"testing"

	"loop.example/g00208/impl"
)

// fewTexts are those that columns behind keys have in rolledRuled, so that steps of guards are often those of changes.
var fewTexts = []string{"", "a", "b", "open"}

// rolledRuled are right data of ruledTables.
func rolledRuled(d *dice, most int) []impl.Data {
	list := ruledTables()
	data := rolledData(d, list, most)
	for i, x := range list {
		for _, r := range data[i].Rows {
			for at := x.Key; at < len(r); at++ {
				if r[at].Kind == impl.VaText {
					r[at] = text(fewTexts[d.below(len(fewTexts))])
				}
			}
		}
	}
	return data
}

// ruleExpr is of a type, and seldom goes out of range.
func (r *roller) ruleExpr(kind int) impl.Tree {
	switch {
	case kind == impl.VaText && r.below(2) == 0:
		return lit(text(fewTexts[r.below(len(fewTexts))]))
	case kind == impl.VaInt && r.below(2) == 0:
		return pair(r.one(kind), r.pick("+ + + -"), lit(num([]int{1, 2, 3, 10, 20, 50, 100, 900}[r.below(8)])))
	case kind == impl.VaInt && r.below(3) == 0:
		return pair(r.one(kind), r.pick("/ % *"), r.one(kind))
	}
	return r.one(kind)
}

// likely is a condition that is true of many rows.
func (r *roller) likely() impl.Tree {
	if len(r.scope) == 0 {
		return lit(flag(1))
	}
	f := r.scope[r.below(len(r.scope))]
	switch f.Type {
	case impl.VaInt:
		return pair(r.column(f), r.pick("< <= > >= <> ="), lit(num(r.below(30)*r.below(4))))
	case impl.VaText:
		return pair(r.column(f), r.pick("= <> <> >="), lit(text(fewTexts[r.below(len(fewTexts))])))
	case impl.VaBool:
		return r.column(f)
	}
	return unary(r.pick("isnull isnotnull"), r.column(f))
}

// whenExpr is true of some rows.
func (r *roller) whenExpr() impl.Tree {
	switch r.below(8) {
	case 0:
		return r.expr(impl.VaBool, 5, false)
	case 1, 2:
		return lit(flag(1))
	case 3:
		return pair(r.likely(), r.pick("and or"), r.likely())
	}
	return r.likely()
}

// rolledRule is right of ruledTables where nothing slips.
func rolledRule(d *dice, x impl.Table, event, slip int) impl.Rule {
	list := ruledTables()
	r := &roller{dice: dice{state: uint64(d.below(1 << 30))}, scope: ruleScope(x), slip: slip, known: d.below(3) > 0}
	made := impl.Rule{Name: r.pick("a b c d e aa B"), Table: x.Name, Event: event, Priority: []int{0, 1, 1, 2, 100}[r.below(5)], When: r.whenExpr()}
	for at, c := range x.Columns {
		if (at >= x.Key || r.slips()) && (made.Event != impl.EvDelete || r.slips()) && r.below(3) == 0 {
			made.Sets = append(made.Sets, impl.Setting{Column: at, Expr: r.ruleExpr(c.Type)})
		}
	}
	if r.slips() {
		made.Sets = append(made.Sets, impl.Setting{Column: r.below(6) - 1, Expr: lit(impl.Value{})})
	}
	if r.below(2) == 0 {
		into := list[r.below(len(list))]
		made.Into = into.Name
		for _, c := range into.Columns {
			made.Exprs = append(made.Exprs, r.ruleExpr(c.Type))
		}
	}
	if r.slips() {
		made.Exprs = append(made.Exprs, lit(impl.Value{}))
	}
	if r.slips() {
		made.Priority = 100 * (r.below(5) - 2)
	}
	return roomyRule(made)
}

// rolledRules are about the table and the event of a statement more than about others.
func rolledRules(d *dice, most, slip int, n impl.Tree) []impl.Rule {
	var made []impl.Rule
	for range d.below(most + 1) {
		list := ruledTables()
		x, found := tableNamed(list, n.Name)
		if !found || d.below(3) == 0 {
			x = list[d.below(len(list))]
		}
		event := strings.IndexByte("-iud", letterOf(n))
		if event < 1 || d.below(2) == 0 {
			event = []int{1, 1, 2, 2, 3}[d.below(5)]
		}
		made = append(made, rolledRule(d, x, event, slip))
	}
	return roomy(made, impl.Rule{Name: "behind"})
}

// rolledGuard lets many steps be.
func rolledGuard(d *dice) impl.Guard {
	g := []impl.Guard{guard("cases", 1), guard("log", 2), guard("marks", 2), guard("notes", 1)}[d.below(4)]
	for range 8 + d.below(12) {
		g.Steps = append(g.Steps, impl.Entry{Key: fewTexts[d.below(len(fewTexts))], Value: fewTexts[d.below(len(fewTexts))]})
	}
	return g
}

// rolledDoing is a statement of ruledTables that changes something, more often than not.
func rolledDoing(d *dice) impl.Tree {
	list := ruledTables()
	x := list[d.below(len(list))]
	r := &roller{dice: dice{state: uint64(d.below(1 << 30))}, scope: ruleScope(x), known: true}
	var ends []impl.Tree
	if r.below(3) > 0 {
		ends = append(ends, where(r.whenExpr()))
	}
	switch r.below(5) {
	case 0, 1:
		var values []impl.Tree
		for _, c := range x.Columns {
			r.scope = nil
			values = append(values, r.ruleExpr(c.Type))
		}
		return insertInto(x.Name, values...)
	case 2:
		return deleteFrom(x.Name, ends...)
	}
	at := x.Key + r.below(len(x.Columns)-x.Key)
	sets := []impl.Tree{setTo(x.Columns[at].Name, r.ruleExpr(x.Columns[at].Type))}
	for other := x.Key; other < at; other++ {
		sets = append(sets, setTo(x.Columns[other].Name, r.ruleExpr(x.Columns[other].Type)))
	}
	return updateOf(x.Name, append(sets, ends...)...)
}

// rolledTried is a statement of ruledTables with rules and guards.
func rolledTried(d *dice, slip int) tried {
	x := tried{list: ruledTables(), data: rolledRuled(d, 5), fuel: []int{0, 1, 2, 3, 5, 9, 20, 50, 50, 50}[d.below(10)]}
	x.n = rolledDoing(d)
	if slip > 0 || d.below(8) == 0 {
		x.n = rolledChanging(d, x.list, slip)
	}
	x.rules = rolledRules(d, impl.MaxRules, slip*4, x.n)
	if d.below(2) == 0 {
		x.guards = append(x.guards, rolledGuard(d))
	}
	for slip > 0 && d.below(8) == 0 {
		x.guards = append(x.guards, guard("cases", d.below(6)-1))
	}
	if slip > 0 && d.below(20) == 0 {
		x.fuel = 51
	}
	return x
}

// Rolled statements, rules and guards, by the words: what was done, in which order, and whose fault counts.
func TestRolledExecutions(t *testing.T) {
	d := &dice{state: 530}
	count, several := map[int]int{}, 0
	for i := range 12000 {
		x := rolledTried(d, []int{0, 0, 0, 0, 0, 0, 40}[i%7])
		_, o, code := wantExecuted(t, x)
		count[code]++
		if len(o.Fired) > 1 && len(o.Changes) > 2 {
			several++
		}
		if t.Failed() {
			t.Fatal("and no more are tried")
		}
	}
	for _, code := range []int{impl.OK, impl.ErrBad, impl.ErrRange, impl.ErrTwice, impl.ErrNull, impl.ErrZero, impl.ErrFuel, impl.ErrGuard} {
		if count[code] < 40 {
			t.Error("few of", impl.CodeWord(code), count)
		}
	}
	if several < 500 {
		t.Error("few in which several fire", several)
	}
}

// Rules that are not right, and which are those of a change, by the words.
func TestRolledRules(t *testing.T) {
	d := &dice{state: 535}
	right, wrong, several := 0, 0, 0
	for i := range 6000 {
		list := ruledTables()
		given := rolledRules(d, impl.MaxRules+1, i%2*20, updateOf("cases"))
		for _, r := range given {
			want := ruleByWords(r, list)
			wantRule(t, r, list, want)
			if want {
				right++
			} else {
				wrong++
			}
		}
		c := rolledChange(d, list, rolledRuled(d, 3))
		want, code := matchByWords(given, list, c)
		wantMatched(t, given, list, c, want, code)
		if len(want) > 1 {
			several++
		}
		if t.Failed() {
			t.Fatal("and no more are asked")
		}
	}
	if right < 9000 || wrong < 2000 || several < 150 {
		t.Error("few of a kind", right, wrong, several)
	}
}

func TestRolledSteps(t *testing.T) {
	d := &dice{state: 540}
	count := map[bool]int{}
	for range 6000 {
		list := ruledTables()
		g := rolledGuard(d)
		if d.below(10) == 0 {
			g.Column = d.below(7) - 1
		}
		c := rolledChange(d, list, rolledRuled(d, 3))
		c.Table = g.Table
		if d.below(8) == 0 {
			c.New = c.New[:d.below(len(c.New)+1)]
		}
		want, code := stepByWords(g, c)
		wantLet(t, g, c, want, code)
		count[want]++
	}
	if count[true] < 300 || count[false] < 300 {
		t.Error("few of a kind", count)
	}
}

// worked hands on rolled statements, rules and guards with what is told of them.
func worked(t *testing.T, state uint64, times int, do func(d *dice, x tried, data []impl.Data, o impl.Outcome, code int)) {
	t.Helper()
	d := &dice{state: state}
	for range times {
		x := rolledTried(d, 0)
		data, o, code := x.do()
		do(d, x, data, o, code)
		if t.Failed() {
			t.Fatal(x.shown())
		}
	}
}

// A statement with a fault changes nothing and tells nothing.
func TestFaultsChangeNothing(t *testing.T) {
	count := map[int]int{}
	worked(t, 545, 4000, func(_ *dice, x tried, data []impl.Data, o impl.Outcome, code int) {
		if _, told, _ := impl.CheckSql(x.n, x.list); code == impl.OK || told != impl.OK || letterOf(x.n) == 's' {
			return
		}
		count[code]++
		if len(o.Changes)+len(o.Fired) != 0 || !sameData(data, x.data) {
			t.Error(impl.CodeWord(code), shownData(data), o)
		}
	})
	for _, code := range []int{impl.ErrTwice, impl.ErrNull, impl.ErrZero, impl.ErrRange, impl.ErrFuel, impl.ErrGuard} {
		if count[code] < 5 {
			t.Error("few of", impl.CodeWord(code), count)
		}
	}
}

// Changes, made one behind the other, lead to the data; each has the row as it was then, and goes a way that all guards have.
func TestChangesLeadToTheData(t *testing.T) {
	guarded := 0
	worked(t, 550, 4000, func(_ *dice, x tried, data []impl.Data, o impl.Outcome, code int) {
		if code != impl.OK {
			return
		}
		now := x.data
		for _, c := range o.Changes {
			at := slices.IndexFunc(x.list, func(y impl.Table) bool { return y.Name == c.Table })
			isThere := slices.ContainsFunc(now[at].Rows, func(r []impl.Value) bool { return slices.Equal(r, c.Old) })
			if isThere != (c.Event != impl.EvInsert) || slices.Equal(c.Old, c.New) {
				t.Error("not as it was then", shownChange(c))
			}
			for _, g := range x.guards {
				if lets, told := impl.GuardStep(g, c); !lets || told != impl.OK {
					t.Error("not a way of a guard", shownChange(c), g)
				}
				if g.Table == c.Table && c.Event != impl.EvDelete {
					guarded++
				}
			}
			next, told := impl.ApplyChange(x.list, now, c)
			if told != impl.OK {
				t.Error(shownChange(c), impl.CodeWord(told))
			}
			now = next
		}
		if !sameData(now, data) || !impl.DataOK(x.list, data) {
			t.Error(shownData(data), "by its changes", shownData(now))
		}
	})
	if guarded < 100 {
		t.Error("few under a guard", guarded)
	}
}

// What fired is told by the changes alone: of each the rules that are its, in their order, whose When is true of its row.
func TestFiredRulesAreThoseOfTheChanges(t *testing.T) {
	several := 0
	worked(t, 555, 4000, func(_ *dice, x tried, _ []impl.Data, o impl.Outcome, code int) {
		if code != impl.OK {
			return
		}
		var fired []string
		for _, c := range o.Changes {
			var looking []impl.Rule
			r := c.New
			if c.Event == impl.EvDelete {
				r = c.Old
			}
			y, _ := tableNamed(x.list, c.Table)
			for _, rule := range x.rules {
				if v, _ := impl.EvalRow(rule.When, ruleScope(y), r); rule.Table == c.Table && v == flag(1) {
					looking = append(looking, rule)
				}
			}
			names, told := impl.MatchRules(looking, x.list, c)
			if told != impl.OK {
				t.Error(shownChange(c), impl.CodeWord(told))
			}
			fired = append(fired, names...)
		}
		if !slices.Equal(fired, o.Fired) || len(fired) > x.fuel {
			t.Error("fired", o.Fired, "by the changes", fired)
		}
		if len(fired) > 2 {
			several++
		}
	})
	if several < 100 {
		t.Error("few in which several fire", several)
	}
}

// With just enough fuel all is as with more of it; with less of it nothing is.
func TestFuelIsTakenForWhatFires(t *testing.T) {
	some := 0
	worked(t, 560, 1500, func(_ *dice, x tried, data []impl.Data, o impl.Outcome, code int) {
		if code != impl.OK {
			return
		}
		needs := len(o.Fired)
		for fuel := range impl.MaxFuel + 1 {
			x.fuel = fuel
			again, told, got := x.do()
			switch {
			case fuel < needs && (got != impl.ErrFuel || len(told.Changes)+len(told.Fired) != 0 || !sameData(again, x.data)):
				t.Error("with fuel", fuel, impl.CodeWord(got), told)
			case fuel >= needs && (got != impl.OK || !sameData(again, data) || !sameChanges(told.Changes, o.Changes) || !slices.Equal(told.Fired, o.Fired)):
				t.Error("with fuel", fuel, impl.CodeWord(got), told)
			}
		}
		if needs > 0 {
			some++
		}
	})
	if some < 100 {
		t.Error("few in which rules fire", some)
	}
}

// In which order rules and guards of different names stand is nothing to what is done.
func TestTheOrderInWhichRulesStand(t *testing.T) {
	some := 0
	worked(t, 565, 3000, func(d *dice, x tried, _ []impl.Data, _ impl.Outcome, _ int) {
		for i := range x.rules {
			x.rules[i].Name = string([]byte{byte('a' + (i*5+3)%8)})
		}
		data, o, code := x.do()
		for range 3 {
			turned := x
			turned.rules, turned.guards = shuffled(d, x.rules), shuffled(d, x.guards)
			again, told, got := turned.do()
			if got != code || !sameData(again, data) || !sameChanges(told.Changes, o.Changes) || !slices.Equal(told.Fired, o.Fired) {
				t.Error(impl.CodeWord(code), o, "in another order", impl.CodeWord(got), told)
			}
		}
		if len(o.Fired) > 1 {
			some++
		}
	})
	if some < 200 {
		t.Error("few in which several fire", some)
	}
}

func shuffled[E any](d *dice, list []E) []E {
	list = slices.Clone(list)
	for i := range list {
		at := i + d.below(len(list)-i)
		list[i], list[at] = list[at], list[i]
	}
	return list
}

// Under a guard a case goes through its life by steps, whatever statements and rules want of it; its history tells each of them.
func TestLivesUnderAGuard(t *testing.T) {
	d := &dice{state: 570}
	ways := guard("cases", 1, ">open", "open>busy", "busy>open", "busy>done", "done>")
	given := rules("a on cases update 1 when status = 'busy' and n > 2 set status = 'done'", "b on cases update 2 when status = 'open' and n = 4 set status = 'done'", "c on cases insert 1 when n is null set n = 0", "d on cases delete 1 when flag into cases (id, 'open', n, false)")
	steps, refused := 0, 0
	for range 60 {
		list, data := ruledTables(), ruledData()
		data[0].Rows = nil
		var done []impl.Change
		for range 40 {
			id := num(d.below(3))
			status := []string{"''", "null", "'open'", "'busy'", "'done'"}
			key, _ := impl.ValueText(id)
			s := []string{
				"insert into cases values (" + key + ", " + status[d.below(5)] + ", null, true)", "insert into cases values (" + key + ", 'open', null, true)", "update cases set status = " + status[d.below(5)] + " where id = " + key, "update cases set n = n + 1 where id <> " + key, "delete from cases where id = " + key, "update cases set status = 'busy'",
			}[d.below(6)]
			next, o, code := impl.Execute(parsed(s), list, data, given, []impl.Guard{ways}, 20)
			if code == impl.ErrGuard {
				refused++
			}
			data, done = next, append(done, o.Changes...)
		}
		for id := range 3 {
			at := ""
			texts, code := impl.HistoryOf(done, "cases", 1, row(num(id)))
			if code != impl.OK {
				t.Error(impl.CodeWord(code))
			}
			whole := lifeOf(done, num(id))
			if told := slices.DeleteFunc(slices.Clone(whole), func(s string) bool { return s == "gone" }); !slices.Equal(told, texts) {
				t.Error(texts, "by its changes", told)
			}
			for _, s := range whole {
				if s == "gone" {
					at = ""
					continue
				}
				if s != at && !slices.Contains(ways.Steps, impl.Entry{Key: at, Value: s}) {
					t.Errorf("from %q to %q in %q", at, s, strings.Join(whole, " "))
				}
				at = s
				steps++
			}
		}
	}
	if steps < 500 || refused < 200 {
		t.Error("few steps", steps, "or few that are refused", refused)
	}
}

// lifeOf are the texts that a case had, one behind the other, and where it was gone.
func lifeOf(list []impl.Change, id impl.Value) []string {
	var texts []string
	for _, c := range list {
		switch {
		case c.Table != "cases":
		case c.Event == impl.EvDelete && c.Old[0] == id:
			texts = append(texts, "gone")
		case c.Event != impl.EvDelete && c.New[0] == id:
			texts = append(texts, c.New[1].T)
		}
	}
	return texts
}

// A rule that never holds changes nothing of what is done, wherever it stands.
func TestRulesThatNeverHold(t *testing.T) {
	some := 0
	worked(t, 575, 3000, func(d *dice, x tried, data []impl.Data, o impl.Outcome, code int) {
		if len(x.rules) == impl.MaxRules {
			return
		}
		more := x
		more.rules = slices.Insert(slices.Clone(x.rules), d.below(len(x.rules)+1), rule([]string{"n on cases update 1 when false set n = 1 / 0", "m on notes insert 0 when null into notes (null, null)", "l on log delete 100 when 1 = 2 into notes (1 / 0, null)"}[d.below(3)]))
		again, told, got := more.do()
		if got != code || !sameData(again, data) || !sameChanges(told.Changes, o.Changes) || !slices.Equal(told.Fired, o.Fired) {
			t.Error(impl.CodeWord(code), o, "with one that never holds", impl.CodeWord(got), told)
		}
		if len(o.Changes) > 1 {
			some++
		}
	})
	if some < 300 {
		t.Error("few of several changes", some)
	}
}
