package tests

import (
	"fmt"
	"slices"
	"strings"
	"testing"

	"loop.example/g00208/impl"
)

// What is for no session conflicts with each one that is open, ahead of all its other codes, and changes nothing then.
func TestOpenSessionsBarTheOthers(t *testing.T) {
	head := []string{"create notes", "backup -> ok 1"}
	barred := []string{"create cases", "create notes", "drop notes", "drop none", "index notes x 1", "column notes m int null = null", "rule a on notes insert 1 when true", "rule a on marks insert 1 when true", "guard notes 1", "guard none 9", "restore"}
	for session := range 3 {
		script := append(slices.Clone(head), fmt.Sprint("begin ", session))
		before := wantScript(t, manySectors, script...)
		for _, line := range barred {
			script = append(script, line+" -> conflict")
		}
		if e := wantScript(t, manySectors, script...); !sameEngine(e, before) {
			t.Error("something changed while session", session, "was open\n", shownEngine(e))
		}
		for _, end := range []string{"commit", "abort"} {
			e := wantScript(t, manySectors, append(script, fmt.Sprint(end, " ", session), "create cases", "create notes -> twice", "drop none -> name", "index notes x 1", "rule a on cases insert 1 when true", "rule a on marks insert 1 when true -> bad", "guard notes 1 >a", "guard notes 0 -> bad", "restore", "drop cases -> name")...)
			if len(e.Tables) != 1 || len(e.Rules) != 0 || len(e.Guards) != 1 {
				t.Error(shownEngine(e))
			}
		}
	}
	wantScript(t, manySectors, append(slices.Clone(head), "begin 0", "begin 2", "commit 0", "create cases -> conflict", "abort 2", "create cases")...)
	wantScript(t, manySectors, append(slices.Clone(head), "begin 0", "begin 2", "crash", "create cases")...)
	// a backup and a power cut wait for nobody
	wantScript(t, manySectors, append(slices.Clone(head), "begin 0", "begin 1", "begin 2", "backup -> ok 1", "crash", "commit 1 -> closed")...)
}

// A catalog's step has the codes of CatalogStep, saves all, and counts as written to all tables.
func TestCatalogSteps(t *testing.T) {
	e := wantScript(t, manySectors,
		"create cases", "create cases -> twice", "create x -> bad", "create x(a int) key 2 -> bad", "drop none -> name", "index none x 0 -> name", "index cases bystatus 1 -> twice", "index cases x 4 -> bad", "index cases x 1 1 -> bad",
		"dropindex cases none -> none", "column cases n int = 1 -> twice", "column cases m int = null -> type", "column cases m int = 'a' -> type", "column cases select int = 1 -> bad",
		"create notes", "create log", "index cases x 2 1", "index cases y 0", "index cases z 3", "index cases w 3 -> full", "dropindex cases y", "create a(k int) key 1", "create b(k int) key 1", "create marks", "create c(k int) key 1 -> full", "drop a")
	if e.Time != 11 || !slices.Equal(e.Changed, []int{11, 11, 11, 11, 11}) || len(e.Tables[1].Indexes) != 3 {
		t.Error(shownEngine(e))
	}
	for _, c := range []struct {
		a    impl.CatAct
		code int
	}{
		{impl.CatAct{}, impl.ErrForm}, {impl.CatAct{Kind: 6, Name: "t"}, impl.ErrForm}, {impl.CatAct{Kind: least}, impl.ErrForm}, {impl.CatAct{Kind: greatest}, impl.ErrForm},
		{create(impl.Table{}), impl.ErrBad}, {addIndex("t", impl.Index{Name: "x", Columns: []int{greatest}}), impl.ErrBad}, {addColumn("t", col("b int"), impl.Value{Kind: least}), impl.ErrType},
		{drop(""), impl.ErrName}, {drop(strings.Repeat("t", impl.MaxText)), impl.ErrName},
	} {
		calls := append(callsOf("create t(a int) key 1"), impl.Call{Kind: impl.EnCatalog, Session: greatest, Catalog: c.a})
		if _, replies := wantEngine(t, manySectors, calls); replies[1].Code != c.code {
			t.Errorf("%.300s: %s", shownCall(calls[1]), shownReply(replies[1]))
		}
	}
}

func TestColumnsAddedToTablesWithRows(t *testing.T) {
	e := wantScript(t, manySectors, "create notes", "create cases", "begin 0", "sql 0 insert into notes values (1, 'a') -> ok 1", "sql 0 insert into notes values (2, null) -> ok 1", "sql 0 insert into cases values (1, 'c', null, null) -> ok 1", "commit 0",
		"column notes n int = 7", "column notes b bytes null = x'00'", "column notes c text null = null", "begin 1", "sql 1 select * from notes -> syntax at 7", "sql 1 select id, what, n, b, c from notes -> ok 2: 1, 'a', 7, x'00', null; 2, null, 7, x'00', null",
		"sql 1 insert into notes values (3, 'a') -> count", "sql 1 insert into notes values (3, 'a', 8, x'ff', 'd') -> ok 1", "sql 1 select id, status, n, flag from cases -> ok 1: 1, 'c', null, null", "commit 1")
	want := dataOf("cases: 1, 'c', null, null", "notes: 1, 'a', 7, x'00', null; 2, null, 7, x'00', null; 3, 'a', 8, x'ff', 'd'")
	if !sameData(e.Data, want) {
		t.Error(shownData(e.Data))
	}
	// of a table without rows, and up to MaxCells columns
	script := []string{"create one(a int) key 1", "create two(a int) key 1", "begin 0", "sql 0 insert into two values (5) -> ok 1", "commit 0"}
	for _, name := range strings.Fields("b c d e f g h") {
		script = append(script, "column one "+name+" bool = true", "column two "+name+" text = '"+name+"'")
	}
	e = wantScript(t, manySectors, append(script, "column one i int = 1 -> full", "column two i int = 1 -> full", "begin 1", "sql 1 select a, b, h from two -> ok 1: 5, 'b', 'h'", "sql 1 select a from one -> ok")...)
	if len(e.Data[0].Rows) != 0 || len(e.Data[1].Rows[0]) != impl.MaxCells {
		t.Error(shownData(e.Data))
	}
	// a row is in its place by its key alone
	e = wantScript(t, manySectors, "create k(a int, b int) key 2", "begin 0", "sql 0 insert into k values (2, 1) -> ok 1", "sql 0 insert into k values (1, 2) -> ok 1", "sql 0 insert into k values (-1, 9) -> ok 1", "commit 0", "column k c int = 0", "index k byc 2 0")
	if !sameData(e.Data, dataOf("k: -1, 9, 0; 1, 2, 0; 2, 1, 0")) {
		t.Error(shownData(e.Data))
	}
}

// Rows of a table that is dropped are gone; one of its name that comes later has none.
func TestDroppedTables(t *testing.T) {
	e := wantScript(t, manySectors, "create cases", "create notes", "begin 0", "sql 0 insert into notes values (1, 'a') -> ok 1", "sql 0 insert into cases values (1, 'a', 1, null) -> ok 1", "commit 0",
		"drop notes", "begin 0", "sql 0 select id from cases -> ok 1: 1", "sql 0 select id from notes -> name at 3", "abort 0", "create notes", "begin 0", "sql 0 select id from notes -> ok", "commit 0", "drop cases", "drop notes")
	if len(e.Tables)+len(e.Data)+len(e.Changed) != 0 || e.Time != 7 {
		t.Error(shownEngine(e))
	}
}

func TestRulesAndGuardsStand(t *testing.T) {
	script := []string{"create cases", "create notes"}
	for i := range impl.MaxRules {
		script = append(script, fmt.Sprintf("rule r%d on cases insert 1 when n = %d into notes (id * 10 + %d, status)", i, i, i))
	}
	script = append(script, "rule a on cases insert 1 when true -> full", "rule a on marks insert 1 when true -> bad")
	for i := range impl.MaxGuards {
		script = append(script, fmt.Sprintf("guard %s 1 >a a>b", []string{"cases", "notes"}[i%2]))
	}
	script = append(script, "guard cases 1 >c -> full", "guard cases 2 >c -> bad", "guard none 1 -> bad")
	e := wantScript(t, manySectors, script...)
	if len(e.Rules) != 8 || len(e.Guards) != 4 || e.Time != 2 || !slices.Equal(e.Changed, []int{2, 2}) {
		t.Error(shownEngine(e))
	}
	for i, r := range e.Rules {
		if r.Name != fmt.Sprint("r", i) {
			t.Error("rule", i, "is", r.Name)
		}
	}
	wantScript(t, manySectors, append(script, "begin 0", "sql 0 insert into cases values (1, 'a', 3, null) -> ok 2 r3", "sql 0 insert into cases values (2, 'a', 99, null) -> ok 1", "sql 0 insert into cases values (3, 'b', 1, null) -> guard",
		"sql 0 update cases set status = 'b' where id = 1 -> ok 1", "sql 0 update cases set status = 'c' -> guard", "sql 0 select id, what from notes -> ok 1: 13, 'a'", "commit 0")...)
	// one of the same name, and the same one again, stand too; a rule without a table to put rows into
	wantScript(t, manySectors, "create cases", "rule a on cases insert 1 when true set n = 1", "rule a on cases insert 1 when true set n = 1", "rule a on cases insert 0 when true set n = 2",
		"begin 0", "sql 0 insert into cases values (1, null, null, null) -> ok 3 a a a", "sql 0 select n from cases -> ok 1: 1")
	wantScript(t, manySectors, "rule a on cases insert 1 when true -> bad", "guard cases 1 -> bad", "create cases", "rule a on cases insert 101 when true -> bad", "rule 1 on cases insert 1 when true -> bad", "rule a on cases delete 1 when true set n = 1 -> bad",
		"rule a on cases insert 1 when n -> bad", "rule a on cases insert 1 when true into notes (id, status) -> bad", "rule a on cases insert 0 when true", "guard cases 0 -> bad")
}

// Rules and guards that are not right any more go; the others stay as they stood.
func TestRulesAndGuardsGo(t *testing.T) {
	stand := []string{"create cases", "create notes", "create marks", "backup -> ok 4",
		"rule a on cases insert 1 when true into notes (id, status)", "rule b on cases update 1 when true set n = 1", "rule c on notes insert 1 when what = 'x' into marks (x'00', 'a', what)", "rule d on notes delete 1 when true", "rule e on marks insert 1 when true set other = 'e'",
		"guard cases 1 >a", "guard notes 1 >b", "guard marks 1 >c", "guard marks 2 >d"}
	for _, c := range []struct {
		then          []string
		rules, guards string
	}{
		{nil, "a b c d e", "cases notes marks marks"},
		{[]string{"drop notes"}, "b e", "cases marks marks"},
		{[]string{"drop cases"}, "c d e", "notes marks marks"},
		{[]string{"drop marks"}, "a b d", "cases notes"},
		{[]string{"drop marks", "drop cases"}, "d", "notes"},
		{[]string{"column notes z int null = null"}, "b c d e", "cases notes marks marks"},
		{[]string{"column cases z int null = null"}, "a b c d e", "cases notes marks marks"},
		{[]string{"column marks z int null = null"}, "a b d e", "cases notes marks marks"},
		{[]string{"index notes z 1", "dropindex cases bystatus", "create log"}, "a b c d e", "cases notes marks marks"},
		{[]string{"drop notes", "create notes"}, "b e", "cases marks marks"},
		{[]string{"create notes -> twice", "drop none -> name", "column notes id int = 1 -> twice"}, "a b c d e", "cases notes marks marks"},
		{[]string{"crash"}, "a b c d e", "cases notes marks marks"},
		{[]string{"begin 0", "sql 0 insert into marks values (x'', 'c', 'd') -> guard", "sql 0 delete from cases -> ok", "crash 0 9"}, "a b c d e", "cases notes marks marks"},
		{[]string{"restore"}, "a b c d e", "cases notes marks marks"},
		{[]string{"drop marks", "restore"}, "a b d", "cases notes"},
		{[]string{"create log", "rule f on log insert 1 when true", "restore"}, "a b c d e", "cases notes marks marks"},
		{[]string{"rule f on cases insert 1 when true", "column cases z text null = null", "guard cases 4 >z -> full", "restore"}, "a b c d e f", "cases notes marks marks"},
		{[]string{"drop notes", "backup -> ok 3", "restore", "create notes", "guard notes 1 >y", "restore"}, "b e", "cases marks marks"},
	} {
		e := wantScript(t, manySectors, append(slices.Clone(stand), c.then...)...)
		var rules, guards []string
		for _, r := range e.Rules {
			rules = append(rules, r.Name)
		}
		for _, g := range e.Guards {
			guards = append(guards, g.Table)
		}
		if strings.Join(rules, " ") != c.rules || strings.Join(guards, " ") != c.guards {
			t.Errorf("%v leaves %v and %v, want %s and %s", c.then, rules, guards, c.rules, c.guards)
		}
	}
	// a column of another type in the place of one that a rule looks at
	e := wantScript(t, manySectors, "create cases", "rule a on cases insert 1 when n > 1", "rule b on cases insert 1 when id > 1", "guard cases 1", "drop cases", "create cases(id int, status int, n text null) key 1")
	if len(e.Rules)+len(e.Guards) != 0 {
		t.Error("of a table that was dropped there is", shownEngine(e))
	}
}

func TestBackupsAndRestores(t *testing.T) {
	e := wantScript(t, manySectors, "restore -> form", "backup -> ok 1", "restore", "create cases", "backup -> ok 2", "begin 0", "sql 0 insert into cases values (1, 'a', 1, null) -> ok 1", "backup -> ok 2", "commit 0",
		"create notes", "restore", "begin 0", "sql 0 select id from cases -> ok", "sql 0 select id from notes -> name at 3", "commit 0", "restore", "restore")
	if e.Time != 7 || !slices.Equal(e.Changed, []int{7}) || len(e.Saved) != 2 {
		t.Error(shownEngine(e))
	}
	// what was backed up comes back, whatever was done meanwhile
	e = wantScript(t, manySectors, "create cases", "create notes", "begin 0", "sql 0 insert into cases values (1, 'it''s', -5, true) -> ok 1", "sql 0 insert into notes values (3, null) -> ok 1", "commit 0", "backup -> ok 3",
		"begin 0", "sql 0 delete from cases -> ok 1", "commit 0", "drop notes", "column cases m int = 4", "crash", "restore", "begin 1", "sql 1 select id, status, n, flag from cases -> ok 1: 1, 'it''s', -5, true", "sql 1 select id from notes -> ok 1: 3", "commit 1")
	if e.Time != 8 || !sameData(e.Data, dataOf("cases: 1, 'it''s', -5, true", "notes: 3, null")) {
		t.Error(shownEngine(e))
	}
	// a restore that there is no room for leaves all as it was, and the pieces too
	inserts := func(count int) []string {
		var script []string
		for x := range count {
			script = append(script, fmt.Sprintf("sql 0 insert into a values (%d) -> ok 1", x))
		}
		return script
	}
	// 3 pages are backed up; then there are 2, then 5
	script := slices.Concat([]string{"create a(x int) key 1", "begin 0"}, inserts(5), []string{"commit 0", "backup -> ok 2", "begin 0", "sql 0 delete from a -> ok 5", "commit 0", "begin 0"}, inserts(8), []string{"commit 0"})
	before := wantScript(t, 9, script...)
	if e := wantScript(t, 9, append(slices.Clone(script), "restore -> full", "restore -> full")...); !sameEngine(e, before) {
		t.Error("a restore without room", shownEngine(e))
	}
	wantScript(t, 9, append(slices.Clone(script), "restore -> full", "begin 0", "sql 0 delete from a where x > 1 -> ok 6", "commit 0", "restore", "begin 1", "sql 1 select count(*) from a -> ok 1: 5")...)
	wantScript(t, 10, append(slices.Clone(script), "restore", "begin 0", "sql 0 select x from a -> ok 5: 0; 1; 2; 3; 4", "abort 0", "restore")...)
}

// Of a seal that has a whole number of pieces the last one is as long as the others.
func TestBackupsOfWholePieces(t *testing.T) {
	for size := 20; size < 150; size++ {
		name := strings.Repeat("n", 1+size%30)
		script := []string{"create " + name + "(x int) key 1"}
		for range size / 30 {
			script = append(script, fmt.Sprintf("index %s i%d 0", name, len(script)))
		}
		calls := append(callsOf(script...), callsOf("backup", "drop "+name, "restore")...)
		e, replies := wantEngine(t, manySectors, calls)
		if last := replies[len(replies)-1]; last.Code != impl.OK || len(e.Tables) != 1 || e.Tables[0].Name != name {
			t.Fatal("a restore of", len(strings.Join(e.Saved, "")), "bytes:", shownReply(last))
		}
	}
}
