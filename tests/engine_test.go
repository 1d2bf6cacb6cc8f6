package tests

import (
	"fmt"
	"slices"
	"strings"
	"testing"

	"loop.example/g00208/impl"
)

func TestNewEngine(t *testing.T) {
	for _, sectors := range []int{least, -256, -1, 0, 1, 2, 3, 257, 258, 260, 1 << 32, 1<<32 + 4, greatest} {
		e, c := impl.NewEngine(sectors)
		code(t, fmt.Sprint("NewEngine of ", sectors), c, impl.ErrRange)
		if !sameEngine(e, impl.Engine{}) {
			t.Error("no engine of", sectors, "has something in it")
		}
	}
	for _, sectors := range []int{4, 5, 8, 128, 255, 256} {
		e, c := impl.NewEngine(sectors)
		code(t, fmt.Sprint("NewEngine of ", sectors), c, impl.OK)
		want := impl.Engine{Disk: blank(sectors), Sessions: make([]impl.Session, impl.MaxSessions)}
		if !sameEngine(e, want) {
			t.Errorf("a new engine of %d sectors:\n%s", sectors, shownEngine(e))
		}
		wantStored(t, "a new engine", e.Disk, nil, nil, impl.OK)
	}
}

func TestTablesRead(t *testing.T) {
	for _, c := range []struct{ statement, names string }{
		{"select 1 from a", "a"},
		{"select 1 from b join a on true", "b a"},
		{"select 1 from a join b on true", "a b"},
		{"select 1 from a join a on true", "a"},
		{"select 1 from a as b join b as a on true", "a b"},
		{"select 1 from a as x join a as y on x.k = y.k where c.k = 1 order by d.k", "a"},
		{"insert into a values (b, 'c')", "a"},
		{"update a set b = c where d.e = 1", "a"},
		{"delete from a where b.c is null", "a"},
	} {
		n := parsed(c.statement)
		before := cloneTree(behindTree(n))
		want, wanted := tablesByWords(n)
		names, code := impl.TablesRead(n)
		if code != impl.OK || wanted != impl.OK || !slices.Equal(names, want) || strings.Join(names, " ") != c.names {
			t.Errorf("%s reads %v %s, by the words %v", c.statement, names, impl.CodeWord(code), want)
		}
		scribbleList(names[:cap(names)], "scribbled")
		if again, _ := impl.TablesRead(n); strings.Join(again, " ") != c.names || !sameTree(before, behindTree(n)) {
			t.Errorf("%s was changed, or its names are kept", c.statement)
		}
	}
}

func TestTablesReadOfNoStatement(t *testing.T) {
	round := query(item(lit(num(1))), from("a"))
	round.Kids[0].Kids[0] = unary("not", lit(flag(1)))
	round.Kids[0].Kids[0].Kids[0] = round.Kids[0]
	round.Kids[0].Kids[0].Kids = round.Kids
	deep := lit(flag(1))
	for range 20 {
		deep = unary("not", deep)
	}
	list := []impl.Tree{
		{}, lit(num(1)), from("a"), field("a"), {Kind: -1}, {Kind: greatest}, {Kind: least}, {Kind: impl.NdSelect},
		{Kind: impl.NdInsert, Name: "a"}, {Kind: impl.NdDelete}, {Kind: impl.NdDelete, Name: "select"}, {Kind: impl.NdDelete, Name: "1"},
		{Kind: impl.NdDelete, Name: strings.Repeat("a", impl.MaxText+1)}, updateOf("a"), deleteFrom("a", where(agg("count"))),
		query(item(lit(num(1)))), query(from("a"), item(lit(num(1)))), query(item(lit(num(1))), from("a"), from("b")),
		query(item(lit(num(1))), from("a"), joinOn(lit(flag(1)))), query(item(lit(num(1))), from("a"), from("b"), from("c"), joinOn(lit(flag(1)))),
		queryOf(deep), round, node(impl.NdSelect, "a", item(lit(num(1))), from("a")),
	}
	for i, n := range list {
		if _, code := tablesByWords(n); code != impl.ErrBad {
			t.Fatal("a statement after all", i)
		}
		if names, code := impl.TablesRead(n); code != impl.ErrBad || names != nil {
			t.Error("TablesRead", i, names, impl.CodeWord(code))
		}
	}
	for i, n := range []impl.Tree{deleteFrom("a"), queryOf(lit(num(1)))} {
		if _, code := impl.TablesRead(n); code != impl.OK {
			t.Error("TablesRead", i, impl.CodeWord(code))
		}
	}
}

func TestBoundsOfCalls(t *testing.T) {
	longText, wholeText := strings.Repeat("a", impl.MaxText+1), strings.Repeat("a", impl.MaxText)
	many := func(count int, last impl.Call) []impl.Call {
		list := make([]impl.Call, count)
		if count > 0 {
			list[count-1] = last
		}
		return list
	}
	longCalls := []impl.Call{
		{Text: longText}, {Kind: impl.EnSql, Text: longText}, {Kind: impl.EnCatalog, Catalog: drop(longText)}, {Catalog: create(impl.Table{}), Kind: 99, Session: -1, Text: longText},
		{Kind: impl.EnCrash, Keep: make([]bool, impl.MaxList+1)}, {Keep: make([]bool, impl.MaxList+1)}, {Kind: impl.EnRule, Catalog: impl.CatAct{Name: longText}},
	}
	fine := []impl.Call{
		{}, {Text: wholeText}, {Kind: impl.EnCrash, Keep: make([]bool, impl.MaxList)}, {Kind: impl.EnCatalog, Catalog: drop(wholeText)},
		{Kind: impl.EnRule, Rule: impl.Rule{Name: longText, Table: longText, Into: longText}}, {Kind: impl.EnGuard, Guard: impl.Guard{Table: longText, Steps: make([]impl.Entry, impl.MaxList+1)}},
		{Kind: impl.EnCatalog, Catalog: impl.CatAct{Kind: impl.CaCreate, Table: impl.Table{Name: longText, Columns: make([]impl.Column, impl.MaxList+1)}}},
		{Kind: impl.EnCatalog, Catalog: impl.CatAct{Kind: impl.CaIndex, Name: "a", Index: impl.Index{Name: longText, Columns: make([]int, impl.MaxList+1)}, Value: text(longText)}},
		{Kind: impl.EnRule, Rule: impl.Rule{Name: "a", Sets: make([]impl.Setting, impl.MaxList+1), Exprs: make([]impl.Tree, impl.MaxList+1)}},
	}
	for _, sectors := range []int{4, 256, 3, 257, least, greatest} {
		inRange := impl.OK
		if sectors < 4 || sectors > 256 {
			inRange = impl.ErrRange
		}
		for i, c := range longCalls {
			for _, count := range []int{1, 2, impl.MaxCalls, impl.MaxCalls + 1, impl.MaxList, impl.MaxList + 1} {
				wantCode(t, fmt.Sprint("long ", i), sectors, many(count, c), impl.ErrLong)
				wantCode(t, fmt.Sprint("long first ", i), sectors, append([]impl.Call{c}, many(count-1, impl.Call{})...), impl.ErrLong)
			}
		}
		for i, c := range fine {
			for _, count := range []int{0, 1, impl.MaxCalls} {
				wantCode(t, fmt.Sprint("fine ", i), sectors, many(count, c), inRange)
			}
			for _, count := range []int{impl.MaxCalls + 1, impl.MaxList} {
				wantCode(t, fmt.Sprint("many ", i), sectors, many(count, c), impl.ErrMany)
			}
			wantCode(t, fmt.Sprint("too many ", i), sectors, many(impl.MaxList+1, c), impl.ErrLong)
		}
	}
}

// wantCode asks both runs for a code.
func wantCode(t *testing.T, what string, sectors int, calls []impl.Call, wanted int) {
	t.Helper()
	what = fmt.Sprintf("%s: %d calls on %d sectors", what, len(calls), sectors)
	code(t, what+" by the words", boundsByWords(sectors, calls), wanted)
	e, replies, c := impl.EngineRun(sectors, calls)
	code(t, what+": EngineRun", c, wanted)
	serial, c := impl.SerialRun(sectors, calls)
	code(t, what+": SerialRun", c, wanted)
	count := len(calls)
	if wanted != impl.OK {
		count = 0
		if !sameEngine(e, impl.Engine{}) || replies != nil || serial != nil {
			t.Errorf("%s: with a code there is something else", what)
		}
	}
	if len(replies) != count || len(serial) != count {
		t.Errorf("%s: %d and %d replies", what, len(replies), len(serial))
	}
}

func TestNoCalls(t *testing.T) {
	for _, calls := range [][]impl.Call{nil, {}} {
		e, replies := wantEngine(t, 9, calls)
		fresh, _ := impl.NewEngine(9)
		if !sameEngine(e, fresh) || len(replies) != 0 {
			t.Error("no calls do something", shownEngine(e))
		}
	}
}

// A call of no kind has ErrForm, whatever its session is; a session that is not there counts ahead of what is open.
func TestKindsAndSessions(t *testing.T) {
	var script []string
	for _, kind := range []int{least, -1, 0, 11, 12, 256 + impl.EnBegin, greatest} {
		for _, session := range []int{-1, 0, 3} {
			script = append(script, fmt.Sprintf("kind %d %d -> form", kind, session))
		}
	}
	for _, session := range []int{least, -1, 3, 4, 256, 1 << 32, greatest} {
		for kind := impl.EnBegin; kind <= impl.EnAbort; kind++ {
			script = append(script, fmt.Sprintf("kind %d %d -> range", kind, session))
		}
	}
	for len(script) > 0 {
		part := script[:min(20, len(script))]
		script = script[len(part):]
		e := wantScript(t, manySectors, append([]string{"begin 0"}, part...)...)
		if !e.Sessions[0].Open || e.Sessions[1].Open || e.Sessions[2].Open {
			t.Error("other sessions are open")
		}
	}
	for session := range 3 {
		e := wantScript(t, manySectors, fmt.Sprint("begin ", session))
		for i, s := range e.Sessions {
			if s.Open != (i == session) {
				t.Error("begin", session, "and", i, "is open:", s.Open)
			}
		}
	}
}

func TestOpenAndClosedSessions(t *testing.T) {
	e := wantScript(t, manySectors,
		"sql 0 select id from cases -> closed", "sql 0 no statement -> closed", "commit 0 -> closed", "abort 0 -> closed", "create cases",
		"begin 0", "begin 0 -> twice", "begin 1", "sql 2 select -> closed", "begin 2", "begin 2 -> twice", "begin 1 -> twice",
		"sql 0 insert into cases values (1, null, 1, null) -> ok 1", "begin 0 -> twice", "sql 0 select id, n from cases -> ok 1: 1, 1",
		"commit 0", "commit 0 -> closed", "abort 0 -> closed", "sql 0 select id from cases -> closed",
		"abort 1", "abort 1 -> closed", "commit 1 -> closed", "begin 1", "sql 1 select id from cases -> ok 1: 1", "sql 2 select id from cases -> ok")
	if e.Time != 2 || e.Sessions[0].Open || e.Sessions[1].Since != 2 || e.Sessions[2].Since != 1 {
		t.Error("sessions", shownEngine(e))
	}
}

// A closed session has nothing left of what it did.
func TestClosedSessionsAreEmpty(t *testing.T) {
	work := []string{"create cases", "create notes", "begin 1", "sql 1 select count(*) from notes -> ok 1: 0", "sql 1 insert into cases values (1, 'a', 2, null) -> ok 1"}
	for _, end := range []string{"commit 1", "abort 1", "crash", "crash 1 2 -> ok 2", "crash 1 99 -> ok 10"} {
		e := wantScript(t, manySectors, append(slices.Clone(work), end)...)
		for i, s := range e.Sessions {
			if s.Open || s.Since != 0 || s.Data != nil || s.Read != nil || s.Wrote != nil {
				t.Errorf("%s: session %d still has something:\n%s", end, i, shownEngine(e))
			}
		}
		if got := wantScript(t, manySectors, append(slices.Clone(work), end, "begin 1")...).Sessions[1]; got.Read != nil || got.Wrote != nil || !got.Open {
			t.Errorf("%s: a session that begins has read %v and written %v", end, got.Read, got.Wrote)
		}
	}
}

// The codes of a statement, with the place in its text, or its node; those of rows have none.
func TestStatementsWithAFault(t *testing.T) {
	e := wantScript(t, manySectors, "create cases", "create notes", "begin 0",
		"sql 0  -> syntax", "sql 0 select -> syntax at 6", "sql 0 select id from cases where ~ -> syntax at 27", "sql 0 "+strings.Repeat(" ", 1001)+" -> range",
		"sql 0 select id from cases group by -> syntax at 29", "sql 0 commit -> syntax", "sql 0 "+strings.Repeat("(", 14)+" -> syntax",
		"sql 0 select "+strings.Repeat("(", 13)+"1"+strings.Repeat(")", 13)+" from cases -> many at 19",
		"sql 0 select id from none -> name at 3", "sql 0 select none from cases -> name at 2", "sql 0 select id from cases join cases on true -> twice at 4", "sql 0 select what + 1 from notes -> type at 3",
		"sql 0 insert into notes values (1) -> count", "sql 0 insert into notes values (1, 2) -> type at 2", "sql 0 update notes set id = 1 -> guard at 1", "sql 0 delete from none -> name",
		"sql 0 update cases set n = status -> type at 2",
	)
	if s := e.Sessions[0]; s.Read != nil || s.Wrote != nil {
		t.Error("a statement that was not right has read", s.Read, "and wrote", s.Wrote)
	}
	e = wantScript(t, manySectors, "create cases", "create notes", "begin 0",
		"sql 0 insert into cases values (1, 'a', 0, null) -> ok 1", "sql 0 select 1 / n from cases -> zero", "sql 0 insert into notes values (null, 'a') -> null",
		"sql 0 insert into cases values (1, 'b', 0, null) -> twice", "sql 0 update cases set n = 1 / n -> zero", "sql 0 update cases set n = 9223372036854775807 -> syntax at 21",
		"sql 0 update cases set n = 999999999999999999 * 10 -> range", "sql 0 select n from cases -> ok 1: 0")
	if s := e.Sessions[0]; !slices.Equal(s.Read, []string{"cases", "notes"}) || !slices.Equal(s.Wrote, []string{"cases"}) {
		t.Error("read", s.Read, "and wrote", s.Wrote)
	}
}
