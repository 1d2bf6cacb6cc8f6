package tests

import (
	"reflect"
	"slices"
	"strings"
	"testing"

	"loop.example/g00208/impl"
)

func roomyChange(c impl.Change) impl.Change {
	c.Old, c.New = roomy(c.Old, behindValue), roomy(c.New, behindValue)
	return c
}

func roomyChanges(list []impl.Change) []impl.Change {
	var made []impl.Change
	for _, c := range list {
		made = append(made, roomyChange(c))
	}
	return roomy(made, impl.Change{Event: 77})
}

// behindChange is a change with what stands behind its rows, in memory of its own.
func behindChange(c impl.Change) impl.Change {
	return cloneChanges([]impl.Change{{Event: c.Event, Table: c.Table, Old: c.Old[:cap(c.Old)], New: c.New[:cap(c.New)]}})[0]
}

func behindChanges(list []impl.Change) []impl.Change {
	var made []impl.Change
	for _, c := range list[:cap(list)] {
		made = append(made, behindChange(c))
	}
	return made
}

func behindRules(list []impl.Rule) []impl.Rule {
	var made []impl.Rule
	for _, r := range list[:cap(list)] {
		r.When = behindTree(r.When)
		r.Exprs = behindTree(impl.Tree{Kids: r.Exprs}).Kids
		r.Sets = slices.Clone(r.Sets[:cap(r.Sets)])
		for i, set := range r.Sets {
			r.Sets[i].Expr = behindTree(set.Expr)
		}
		made = append(made, r)
	}
	return cloneRules(made)
}

func behindGuards(list []impl.Guard) []impl.Guard {
	var made []impl.Guard
	for _, g := range list[:cap(list)] {
		g.Steps = append([]impl.Entry(nil), g.Steps[:cap(g.Steps)]...)
		made = append(made, g)
	}
	return made
}

func scribbleChanges(list []impl.Change) {
	for _, c := range list[:cap(list)] {
		scribbleList(c.Old[:cap(c.Old)], scribbled)
		scribbleList(c.New[:cap(c.New)], scribbled)
	}
	scribbleList(list[:cap(list)], impl.Change{Event: -9, Table: "scribbled"})
}

func scribbleRules(list []impl.Rule) {
	for _, r := range list[:cap(list)] {
		scribbleTree(r.When)
		scribbleTree(impl.Tree{Kids: r.Exprs})
		for _, set := range r.Sets[:cap(r.Sets)] {
			scribbleTree(set.Expr)
		}
		scribbleList(r.Sets[:cap(r.Sets)], impl.Setting{Column: -9})
	}
	scribbleList(list[:cap(list)], impl.Rule{Name: "scribbled"})
}

func scribbleGuards(list []impl.Guard) {
	for _, g := range list[:cap(list)] {
		scribbleList(g.Steps[:cap(g.Steps)], impl.Entry{Key: "scribbled", Value: "scribbled"})
	}
	scribbleList(list[:cap(list)], impl.Guard{Table: "scribbled"})
}

// roomyTried has memory of its own, with room behind all ends.
func roomyTried(x tried) tried {
	x.n, x.list, x.data = roomyTree(x.n), roomyTables(x.list), roomyData(x.data)
	var rules []impl.Rule
	for _, r := range x.rules {
		rules = append(rules, roomyRule(r))
	}
	x.rules = roomy(rules, impl.Rule{Name: "behind"})
	var guards []impl.Guard
	for _, g := range x.guards {
		g.Steps = roomy(g.Steps, impl.Entry{Key: "behind"})
		guards = append(guards, g)
	}
	x.guards = roomy(guards, impl.Guard{Table: "behind"})
	return x
}

// behindTried is all that stands in x and behind its ends.
func behindTried(x tried) []any {
	return []any{cloneTree(behindTree(x.n)), cloneTables(behindTables(x.list)), behindData(x.data), behindRules(x.rules), behindGuards(x.guards)}
}

// someTried are executed with and without faults; some are not right at all.
func someTried() []tried {
	d := &dice{state: 580}
	list := []tried{{}, {list: ruledTables()}, try("delete from cases", "", 51)}
	for i := range 120 {
		list = append(list, roomyTried(rolledTried(d, i%5/4*12)))
	}
	far := try("delete from cases", "a on cases delete 1 when true into notes (id, null)", 9, guard("cases", 1))
	for _, bend := range []func(*tried){func(x *tried) { x.list = manyTables(impl.MaxList + 1) }, func(x *tried) { x.data = make([]impl.Data, impl.MaxList+1) }, func(x *tried) { x.rules = make([]impl.Rule, impl.MaxList+1) }, func(x *tried) { x.guards = make([]impl.Guard, impl.MaxList+1) }} {
		x := far
		bend(&x)
		list = append(list, x)
	}
	return list
}

// someChanges are right ones of ruledTables and others.
func someChanges() []impl.Change {
	d := &dice{state: 585}
	list := changeList("insert cases: 7, 'open', 1, true", "update cases: 1, 'a', 5, true > 1, 'b', 5, true", "delete notes: 1, null", "insert notes: 1, 'x'", "delete log: 1, 7, null, 0")
	for range 30 {
		list = append(list, rolledChange(d, ruledTables(), ruledData()))
	}
	return roomyChanges(append(list, wrongChanges()[:9]...))
}

// askedOfRules are all calls of chapter 16 with some arguments.
func askedOfRules() []func() []any {
	var calls []func() []any
	ask := func(f func() []any) { calls = append(calls, f) }
	d := &dice{state: 590}
	for _, list := range [][]impl.Table{nil, ruledTables(), ruledTables()[:2], wrongCatalogs()[0], manyTables(impl.MaxList + 1)} {
		for range 60 {
			r, g := rolledRule(d, ruledTables()[d.below(4)], 1+d.below(3), 20), rolledGuard(d)
			ask(func() []any { return []any{impl.RuleOK(r, list), impl.GuardOK(g, list)} })
		}
		for _, c := range someChanges() {
			given := rolledRules(d, 8, 60, updateOf(c.Table))
			ask(func() []any { names, code := impl.MatchRules(given, list, c); return []any{names, code} })
			ask(func() []any { data, code := impl.ApplyChange(list, ruledData(), c); return []any{data, code} })
			ask(func() []any { yes, code := impl.GuardStep(rolledGuard(&dice{state: 7}), c); return []any{yes, code} })
		}
	}
	for _, x := range someTried() {
		ask(func() []any { list, code := impl.StatementChanges(x.n, x.list, x.data); return []any{list, code} })
		ask(func() []any { data, o, code := x.do(); return []any{data, o, code} })
	}
	for _, name := range []string{"cases", "notes", "", strings.Repeat("c", impl.MaxText+1)} {
		for _, column := range []int{least, -1, 0, 1, 3, 4, greatest} {
			ask(func() []any {
				texts, code := impl.HistoryOf(someChanges(), name, column, one("1"))
				return []any{texts, code}
			})
		}
	}
	return calls
}

func TestWhatIsExecutedStays(t *testing.T) {
	for _, x := range someTried() {
		before := behindTried(x)
		x.do()
		impl.StatementChanges(x.n, x.list, x.data)
		for _, r := range x.rules {
			impl.RuleOK(r, x.list)
		}
		for _, g := range x.guards {
			impl.GuardOK(g, x.list)
		}
		if !reflect.DeepEqual(behindTried(x), before) {
			t.Fatalf("%swas changed", x.shown())
		}
	}
	d := &dice{state: 595}
	for _, c := range someChanges() {
		x := roomyTried(tried{list: ruledTables(), data: ruledData(), rules: rolledRules(d, 8, 0, updateOf(c.Table)), guards: []impl.Guard{rolledGuard(d)}})
		before, whole := behindTried(x), behindChange(c)
		impl.MatchRules(x.rules, x.list, c)
		impl.ApplyChange(x.list, x.data, c)
		impl.GuardStep(x.guards[0], c)
		if !reflect.DeepEqual(behindTried(x), before) || !reflect.DeepEqual(behindChange(c), whole) {
			t.Fatalf("%sor %s was changed", x.shown(), shownChange(c))
		}
	}
	list, key := someChanges(), roomy(one("1"), behindValue)
	before := behindChanges(list)
	for column := range 5 {
		impl.HistoryOf(list, "cases", column, key)
		impl.HistoryOf(list, "notes", column, key)
	}
	if !reflect.DeepEqual(behindChanges(list), before) || !slices.Equal(key[:3], []impl.Value{num(1), behindValue, behindValue}) {
		t.Error("a history's changes or its key were changed")
	}
}

// listsOf are all lists of values that an answer has.
func listsOf(data []impl.Data, list []impl.Change) [][]impl.Value {
	var lists [][]impl.Value
	for _, d := range data {
		lists = append(lists, d.Rows...)
	}
	for _, c := range list {
		lists = append(lists, c.Old, c.New)
	}
	return lists
}

// shareNoRows writes over each list of an answer by itself, with what stands behind its end; the others stay.
func shareNoRows(t *testing.T, what string, data []impl.Data, list []impl.Change) {
	t.Helper()
	lists := listsOf(data, list)
	want := cloneRows(lists)
	for i, r := range lists {
		scribbleList(r[:cap(r)], scribbled)
		for k, other := range lists {
			if k != i && !slices.Equal(other, want[k]) {
				t.Fatalf("%.500s: list %d shares memory with list %d", what, i, k)
			}
		}
		copy(r, want[i])
	}
	for i, d := range data {
		rows := slices.Clone(d.Rows)
		scribbleList(d.Rows[:cap(d.Rows)], []impl.Value{scribbled})
		for k, other := range data {
			if k != i && slices.ContainsFunc(other.Rows, func(r []impl.Value) bool { return slices.Equal(r, []impl.Value{scribbled}) }) {
				t.Fatalf("%.500s: the rows of table %d share memory with those of %d", what, i, k)
			}
		}
		copy(d.Rows, rows)
	}
}

func TestWhatIsExecutedIsNewMemory(t *testing.T) {
	some := 0
	for _, given := range someTried() {
		x := roomyTried(given)
		before := behindTried(x)
		data, o, code := x.do()
		shareNoRows(t, x.shown(), data, o.Changes)
		rows, list, fired := cloneData(data), cloneChanges(o.Changes), slices.Clone(o.Fired)
		scribbleData(data)
		scribbleChanges(o.Changes)
		scribbleList(o.Fired[:cap(o.Fired)], "scribbled")
		if !reflect.DeepEqual(behindTried(x), before) {
			t.Fatalf("%sshares memory with its answer", x.shown())
		}
		data, o, again := x.do()
		if again != code || !sameData(data, rows) || !sameChanges(o.Changes, list) || !slices.Equal(o.Fired, fired) {
			t.Fatalf("%sanswers something else: %s, then %s", x.shown(), impl.CodeWord(code), impl.CodeWord(again))
		}
		want := cloneData(data)
		scribbleTree(x.n)
		scribbleTables(x.list)
		scribbleData(x.data)
		scribbleRules(x.rules)
		scribbleGuards(x.guards)
		if !sameData(data, want) || !sameChanges(o.Changes, list) || !slices.Equal(o.Fired, fired) {
			t.Fatalf("%.300s: an answer changes with its arguments", drawn(x.n))
		}
		if len(list) > 1 && len(fired) > 0 {
			some++
		}
	}
	if some < 5 {
		t.Error("few answers of several changes", some)
	}
}

func cloneData(data []impl.Data) []impl.Data {
	var made []impl.Data
	for _, d := range data {
		made = append(made, impl.Data{Name: d.Name, Rows: cloneRows(d.Rows)})
	}
	return made
}

func TestChangesThatAreAskedForAreNewMemory(t *testing.T) {
	some := 0
	for _, given := range someTried() {
		x := roomyTried(given)
		before := behindTried(x)
		list, code := impl.StatementChanges(x.n, x.list, x.data)
		shareNoRows(t, x.shown(), nil, list)
		want := cloneChanges(list)
		scribbleChanges(list)
		if !reflect.DeepEqual(behindTried(x), before) {
			t.Fatalf("%sshares memory with its changes", x.shown())
		}
		list, again := impl.StatementChanges(x.n, x.list, x.data)
		scribbleTree(x.n)
		scribbleTables(x.list)
		scribbleData(x.data)
		if again != code || !sameChanges(list, want) {
			t.Fatalf("%.300s: other changes, or changed with the arguments: %s", drawn(x.n), shownChanges(list))
		}
		if len(want) > 1 {
			some++
		}
	}
	if some < 5 {
		t.Error("few of several changes", some)
	}
}

func TestAppliedDataAreNewMemory(t *testing.T) {
	some := 0
	for _, given := range someChanges() {
		c := roomyChange(given)
		list, data := ruledTables(), roomyData(ruledData())
		before, tables, whole := behindData(data), cloneTables(behindTables(list)), behindChange(c)
		got, code := impl.ApplyChange(list, data, c)
		shareNoRows(t, shownChange(c), got, nil)
		want := cloneData(got)
		scribbleData(got)
		if !reflect.DeepEqual(behindData(data), before) || !sameTables(behindTables(list), tables) || !reflect.DeepEqual(behindChange(c), whole) {
			t.Fatal(shownChange(c), "shares memory with its data")
		}
		got, again := impl.ApplyChange(list, data, c)
		scribbleTables(list)
		scribbleData(data)
		scribbleChanges([]impl.Change{c})
		if again != code || !sameData(got, want) {
			t.Fatal("other data, or changed with the arguments", shownData(got), "want", shownData(want))
		}
		if code == impl.OK {
			some++
		}
	}
	if some < 10 {
		t.Error("few that are applied", some)
	}
}

func TestNamesAndTextsOfRulesAreNewMemory(t *testing.T) {
	c := changeOf("insert cases: 1, 'a', 1, true")
	given := someMatched()
	names, code := impl.MatchRules(given, ruledTables(), c)
	want := slices.Clone(names)
	scribbleList(names[:cap(names)], "scribbled")
	again, code2 := impl.MatchRules(given, ruledTables(), c)
	if !slices.Equal(again, want) || code != code2 || !sameRules(given, someMatched()) {
		t.Error("MatchRules", want, again)
	}
	scribbleRules(given)
	if !slices.Equal(again, want) {
		t.Error("names change with the rules", again)
	}
	list := changeList("insert cases: 1, 'a'", "update cases: 1, 'a' > 1, 'b'")
	texts, code := impl.HistoryOf(list, "cases", 1, one("1"))
	scribbleList(texts[:cap(texts)], "scribbled")
	more, code2 := impl.HistoryOf(list, "cases", 1, one("1"))
	scribbleChanges(list)
	if !slices.Equal(more, []string{"a", "b"}) || code != code2 {
		t.Error("HistoryOf", more)
	}
}

// Rows that share memory are asked of as any others.
func TestRulesThatShareMemory(t *testing.T) {
	r := one("1, 'open', 1, true")
	wantLet(t, guard("cases", 1), updated("cases", r, r), true, impl.OK)
	want, code := applyByWords(ruledTables(), ruledData(), updated("cases", r, r))
	wantApplied(t, ruledTables(), ruledData(), updated("cases", r, r), want, code)
	e := []impl.Tree{parsedExpr("n + 1"), parsedExpr("status")}
	x := try("update cases set n = 1 where id = 1", "a on cases update 1 when n < 3 set n = n + 1", 9)
	x.rules[0].Into, x.rules[0].Exprs = "notes", e
	x.rules[0].Sets[0].Expr = e[0]
	x.rules = append(x.rules, x.rules[0])
	x.rules[1].Priority = 2
	if _, _, code := wantExecuted(t, x); code != impl.ErrTwice {
		t.Error(impl.CodeWord(code))
	}
	x.rules = x.rules[:1]
	if _, o, code := wantExecuted(t, x); code != impl.OK || len(o.Changes) != 5 {
		t.Error(impl.CodeWord(code), shownChanges(o.Changes))
	}
}

// An empty list and nil are the same.
func TestEmptyListsOfRules(t *testing.T) {
	for _, none := range [][]impl.Value{nil, {}} {
		c := impl.Change{Event: impl.EvInsert, Table: "notes", Old: none, New: one("7, null")}
		want, _ := applyByWords(ruledTables(), ruledData(), c)
		wantApplied(t, ruledTables(), ruledData(), c, want, impl.OK)
		wantLet(t, guard("notes", 1, ">"), c, true, impl.OK)
		wantHistory(t, []impl.Change{c}, "notes", 1, none, []string{""}, impl.OK)
		wantMatched(t, nil, ruledTables(), impl.Change{Event: impl.EvInsert, Table: "notes", New: none}, nil, impl.ErrBad)
	}
	for _, x := range []tried{{rules: nil, guards: nil}, {rules: []impl.Rule{}, guards: []impl.Guard{}}} {
		x.n, x.list = parsed("insert into notes values (1, 'a')"), ruledTables()
		for _, rows := range [][][]impl.Value{nil, {}} {
			x.data = emptyData(x.list)
			for i := range x.data {
				x.data[i].Rows = rows
			}
			wantTried(t, x, changeList("insert notes: 1, 'a'"), "", impl.OK)
		}
		x.data = []impl.Data{}
		wantTried(t, tried{n: x.n, list: []impl.Table{}, data: []impl.Data{}}, nil, "", impl.ErrName)
	}
	wantMatched(t, []impl.Rule{}, ruledTables(), changeOf("insert notes: 1, null"), nil, impl.OK)
	wantHistory(t, []impl.Change{}, "notes", 1, nil, nil, impl.OK)
}
