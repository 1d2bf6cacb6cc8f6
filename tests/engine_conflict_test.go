package tests

import (
	"fmt"
	"slices"
	"strings"
	"testing"
)

// wantReadWrote runs a script in which session 0 is left open, and asks what that has read and written.
func wantReadWrote(t *testing.T, read, wrote string, script ...string) {
	t.Helper()
	s := wantScript(t, manySectors, script...).Sessions[0]
	if strings.Join(s.Read, " ") != read || strings.Join(s.Wrote, " ") != wrote || !s.Open {
		t.Errorf("%v: read %v, wrote %v, want %s, and %s", script, s.Read, s.Wrote, read, wrote)
	}
}

// each once, behind those of earlier statements; the rules' Into tables only of what is no query.
func TestWhatIsRead(t *testing.T) {
	begun := []string{"create cases", "create log", "create marks", "create notes", "begin 0"}
	ruled := []string{"create cases", "create log", "create marks", "create notes",
		"rule a on cases delete 9 when false into notes (id, status)",
		"rule b on notes insert 5 when id > 100 set what = 'b'",
		"rule c on cases insert 1 when n = 1 into log (id, n, status, 1)",
		"rule d on log insert 0 when false into notes (id, what)",
		"rule e on cases update 7 when true set n = 5", "begin 0"}
	for _, c := range []struct {
		script      []string
		read, wrote string
	}{
		{nil, "", ""},
		{[]string{"sql 0 select id from notes -> ok"}, "notes", ""},
		{[]string{"sql 0 select notes.id from notes join cases on true -> ok"}, "notes cases", ""},
		{[]string{"sql 0 select x.id from notes as x join notes as y on true -> ok", "sql 0 select id from cases -> ok", "sql 0 select id from notes -> ok"}, "notes cases", ""},
		{[]string{"sql 0 select a.id from log as a join cases as b on true -> ok", "sql 0 select a.id from cases as a join marks on true -> ok"}, "log cases marks", ""},
		{[]string{"sql 0 select id from notes limit 0 -> ok", "sql 0 select id / 0 from cases -> ok"}, "notes cases", ""},
		{[]string{"sql 0 select count(*) / 0 from cases -> zero"}, "cases", ""},
		{[]string{"sql 0 select id from none -> name at 3", "sql 0 select from notes -> syntax at 7"}, "", ""},
	} {
		wantReadWrote(t, c.read, c.wrote, append(slices.Clone(begun), c.script...)...)
		wantReadWrote(t, c.read, c.wrote, append(slices.Clone(ruled), c.script...)...)
	}
	for _, c := range []struct {
		line                      string
		plain, plainWrote         string
		underRules, underRulesToo string
	}{
		{"sql 0 delete from notes -> ok", "notes", "", "notes log", ""},
		{"sql 0 delete from log -> ok", "log", "", "log notes", ""},
		{"sql 0 update marks set other = null -> ok", "marks", "", "marks notes log", ""},
		{"sql 0 insert into cases values (7, null, 2, null) -> ok 1", "cases", "cases", "cases notes log", "cases"},
		{"sql 0 insert into cases values (1 / 0, null, 2, null) -> zero", "cases", "", "cases notes log", ""},
		{"sql 0 insert into cases values (null, null, 2, null) -> null", "cases", "", "cases notes log", ""},
		{"sql 0 insert into cases values (7, null, '2', null) -> type at 3", "", "", "", ""},
	} {
		wantReadWrote(t, c.plain, c.plainWrote, append(slices.Clone(begun), c.line)...)
		wantReadWrote(t, c.underRules, c.underRulesToo, append(slices.Clone(ruled), c.line)...)
	}
	wantReadWrote(t, "cases notes log marks", "cases log notes", append(slices.Clone(ruled),
		"sql 0 select id from cases -> ok",
		"sql 0 insert into cases values (7, 'x', 1, null) -> ok 2 c",
		"sql 0 insert into notes values (101, 'x') -> ok 2 b",
		"sql 0 delete from marks -> ok",
		"sql 0 update cases set n = 3 where id = 7 -> ok 2 e e",
		"sql 0 select id, n from cases -> ok 1: 7, 5",
		"sql 0 select n, what from log -> ok 1: 1, 'x'")...)
}

// What is written is what changed: no table of a statement that changes nothing, and none of one with a fault.
func TestWhatIsWritten(t *testing.T) {
	begun := []string{"create cases", "create notes", "begin 0"}
	for _, c := range []struct {
		script []string
		wrote  string
	}{
		{[]string{"sql 0 update cases set n = 1 -> ok"}, ""},
		{[]string{"sql 0 delete from notes where id > 3 -> ok"}, ""},
		{[]string{"sql 0 insert into notes values (1, 'a') -> ok 1"}, "notes"},
		{[]string{"sql 0 insert into notes values (1, 'a') -> ok 1", "sql 0 insert into cases values (1, null, null, null) -> ok 1", "sql 0 insert into notes values (2, 'a') -> ok 1"}, "notes cases"},
		{[]string{"sql 0 insert into notes values (1, 'a') -> ok 1", "sql 0 delete from notes -> ok 1"}, "notes"},
		{[]string{"sql 0 insert into notes values (1, 'a') -> ok 1", "sql 0 update notes set what = 'a' -> ok"}, "notes"},
		{[]string{"sql 0 insert into notes values (1, 'a') -> ok 1", "sql 0 insert into notes values (1, 'b') -> twice", "sql 0 insert into cases values (null, null, null, null) -> null"}, "notes"},
	} {
		s := wantScript(t, manySectors, append(slices.Clone(begun), c.script...)...).Sessions[0]
		if strings.Join(s.Wrote, " ") != c.wrote {
			t.Errorf("%v: wrote %v", c.script, s.Wrote)
		}
	}
	wantReadWrote(t, "cases notes", "cases notes", "create cases", "create notes", "rule a on cases insert 1 when true set n = id into notes (id, status)", "begin 0",
		"sql 0 insert into cases values (1, 'a', null, null) -> ok 3 a", "sql 0 insert into cases values (2, 'b', null, null) -> ok 3 a", "sql 0 select n from cases -> ok 2: 1; 2")
	// a rule that fails takes back what its statement did
	wantReadWrote(t, "cases notes", "", "create cases", "create notes", "rule a on cases insert 1 when true into notes (n, status)", "begin 0",
		"sql 0 insert into cases values (1, 'a', null, null) -> null", "sql 0 select id from cases -> ok", "sql 0 select id from notes -> ok")
	wantReadWrote(t, "cases notes", "", "create cases", "create notes", "rule a on cases insert 1 when true into cases (id + 1, status, n, flag)", "rule b on cases insert 1 when n = 0 into notes (id, status)", "begin 0",
		"sql 0 insert into cases values (1, 'a', null, null) -> fuel")
	// rules fire 50 times, and each statement has as much fuel
	wantReadWrote(t, "cases", "cases", "create cases", "rule a on cases insert 1 when n > 0 set n = n - 1", "rule b on cases update 1 when n > 0 set n = n - 1", "begin 0",
		fmt.Sprint("sql 0 insert into cases values (1, null, 50, null) -> ok 51 a", strings.Repeat(" b", 49)), "sql 0 insert into cases values (2, null, 51, null) -> fuel",
		fmt.Sprint("sql 0 insert into cases values (3, null, 50, null) -> ok 51 a", strings.Repeat(" b", 49)), "sql 0 select sum(n) from cases -> ok 1: 0")
}

// A conflict is a table that was read or written, and has changed since the session began.
func TestConflictsOfSessions(t *testing.T) {
	begun := []string{"create cases", "create notes", "create log", "begin 2", "sql 2 insert into cases values (1, 'a', 1, null) -> ok 1", "sql 2 insert into notes values (1, 'a') -> ok 1", "commit 2 -> ok", "begin 0"}
	const readsCases, readsNotes, readsLog = "sql 0 select id from cases where id = 99 -> ok", "sql 0 select id from notes where false -> ok", "sql 0 select id from log -> ok"
	const writesCases, writesNotes, writesLog = "sql 0 insert into cases values (5, null, null, null) -> ok 1", "sql 0 insert into notes values (6, null) -> ok 1", "sql 0 insert into log values (5, 5, null, 5) -> ok 1"
	turns := [][]string{
		{readsCases}, {readsNotes}, {readsLog}, {writesCases}, {writesNotes}, {writesLog},
		{readsCases, writesNotes}, {readsNotes, writesCases}, {readsLog, writesCases}, {writesCases, writesNotes}, {readsCases, readsNotes}, {readsNotes, writesNotes}, nil,
	}
	others := []struct{ line, changes string }{
		{"sql 1 insert into cases values (9, null, null, null) -> ok 1", "cases"},
		{"sql 1 update notes set what = 'b' -> ok 1", "notes"},
		{"sql 1 delete from cases -> ok 1", "cases"},
		{"sql 1 select id from cases -> ok 1: 1", ""},
		{"sql 1 delete from notes where id > 50 -> ok", ""},
		{"sql 1 update cases set n = n -> ok", ""},
	}
	for _, other := range others { // what came ahead of a session's beginning is none of its conflicts
		wantScript(t, manySectors, slices.Concat(begun[:len(begun)-1], []string{"begin 1", other.line, "commit 1", "begin 0", readsCases, readsNotes, writesCases, writesNotes, "commit 0"})...)
	}
	for _, turn := range turns {
		for _, other := range others {
			for at := range len(turn) + 1 {
				touched := strings.Join(turn, " ")
				reply := "ok"
				if other.changes != "" && strings.Contains(touched, other.changes) {
					reply = "conflict"
				}
				script := slices.Concat(begun, turn[:at], []string{"begin 1", other.line, "commit 1"}, turn[at:], []string{"commit 0 -> " + reply, "commit 0 -> closed", "begin 0", "commit 0"})
				wantScript(t, manySectors, script...)
				// what does not commit has changed nothing
				wantScript(t, manySectors, slices.Concat(begun, turn[:at], []string{"begin 1", other.line, "abort 1"}, turn[at:], []string{"commit 0"})...)
			}
		}
	}
}

// Two of which each reads what the other writes: the first one commits, the other has a conflict and may begin again.
func TestTwoThatReadWhatTheOtherWrites(t *testing.T) {
	begun := []string{"create cases", "create notes", "begin 0", "begin 1",
		"sql 0 select count(*) from notes -> ok 1: 0", "sql 1 select count(*) from cases -> ok 1: 0",
		"sql 0 insert into cases values (1, 'a', 0, null) -> ok 1", "sql 1 insert into notes values (1, 'b') -> ok 1"}
	e := wantScript(t, manySectors, append(slices.Clone(begun), "commit 0", "commit 1 -> conflict", "begin 1", "sql 1 select count(*) from cases -> ok 1: 1", "sql 1 insert into notes values (1, 'b') -> ok 1", "commit 1")...)
	if !sameData(e.Data, dataOf("cases: 1, 'a', 0, null", "notes: 1, 'b'")) {
		t.Error("the first one, then the other:", shownData(e.Data))
	}
	e = wantScript(t, manySectors, append(slices.Clone(begun), "commit 1", "commit 0 -> conflict", "commit 0 -> closed")...)
	if !sameData(e.Data, dataOf("cases:", "notes: 1, 'b'")) || e.Time != 3 || !slices.Equal(e.Changed, []int{2, 3}) {
		t.Error("the other one, then the first:", shownEngine(e))
	}
	// without one of the looks there is no conflict
	wantScript(t, manySectors, append(slices.Concat(begun[:4], begun[5:]), "commit 0", "commit 1 -> conflict")...)
	wantScript(t, manySectors, append(slices.Concat(begun[:5], begun[6:]), "commit 0", "commit 1")...)
	wantScript(t, manySectors, append(slices.Concat(begun[:5], begun[6:]), "commit 1", "commit 0 -> conflict")...)
}

// What a rule may put rows into is read, so that its fault, or that it has none, is as one by one.
func TestConflictsByRules(t *testing.T) {
	begun := []string{"create cases", "create notes", "rule a on cases insert 1 when n = 1 into notes (id, status)", "begin 0", "begin 1"}
	for _, line := range []string{
		"sql 0 insert into cases values (1, 'a', 1, null) -> ok 2 a",
		"sql 0 insert into cases values (1, 'a', 0, null) -> ok 1",
		"sql 0 delete from cases -> ok",
		"sql 0 update cases set n = 1 -> ok",
		"sql 0 insert into cases values (1, null, 1 / 0, null) -> zero",
	} {
		wantScript(t, manySectors, append(slices.Clone(begun), line, "sql 1 insert into notes values (1, 'b') -> ok 1", "commit 1", "commit 0 -> conflict")...)
		wantScript(t, manySectors, append(slices.Clone(begun), "sql 0 select n from cases -> ok", "sql 1 insert into notes values (1, 'b') -> ok 1", "commit 1", "commit 0")...)
	}
	wantScript(t, manySectors, append(slices.Clone(begun), "sql 1 insert into notes values (1, 'b') -> ok 1", "commit 1", "sql 0 insert into cases values (1, 'a', 1, null) -> ok 2 a", "commit 0 -> conflict",
		"begin 0", "sql 0 insert into cases values (1, 'a', 1, null) -> twice", "sql 0 select id from cases -> ok", "sql 0 insert into cases values (2, 'a', 1, null) -> ok 2 a", "commit 0")...)
}

// A table that is gone, or is gone and there again, was taken away while no session was open:
// a session that begins behind that does not know the old one.
func TestTablesThatAreGone(t *testing.T) {
	e := wantScript(t, manySectors, "create cases", "create notes", "begin 0", "sql 0 insert into cases values (1, null, 1, null) -> ok 1",
		"drop cases -> conflict", "drop notes -> conflict", "commit 0", "drop cases", "begin 0", "sql 0 select id from cases -> name at 3", "sql 0 insert into notes values (1, null) -> ok 1", "commit 0",
		"create cases", "begin 0", "begin 1", "sql 0 select id from cases -> ok", "sql 1 insert into notes values (2, null) -> ok 1", "commit 1", "commit 0", "backup -> ok 3")
	if e.Time != 7 || !slices.Equal(e.Changed, []int{6, 7}) || !sameData(e.Data, dataOf("cases:", "notes: 1, null; 2, null")) {
		t.Error(shownEngine(e))
	}
	e = wantScript(t, manySectors, "create cases", "backup -> ok 2", "begin 0", "sql 0 insert into cases values (1, null, 1, null) -> ok 1", "restore -> conflict", "commit 0", "create notes", "restore",
		"begin 0", "sql 0 select id from notes -> name at 3", "sql 0 select id from cases -> ok", "commit 0")
	if e.Time != 4 || !slices.Equal(e.Changed, []int{4}) {
		t.Error(shownEngine(e))
	}
}

// Nobody sees what another one has not committed; who began ahead of a commit does not see it.
func TestWhatIsSeen(t *testing.T) {
	wantScript(t, manySectors, "create notes", "begin 0", "begin 1",
		"sql 0 insert into notes values (1, 'a') -> ok 1", "sql 0 select id from notes -> ok 1: 1", "sql 1 select id from notes -> ok", "begin 2", "sql 2 select id from notes -> ok", "commit 0",
		"sql 1 select id from notes -> ok", "begin 0", "sql 0 select id from notes -> ok 1: 1", "commit 1 -> conflict", "begin 1", "sql 1 delete from notes -> ok 1", "sql 1 select id from notes -> ok",
		"sql 0 select id from notes -> ok 1: 1", "commit 0", "abort 1", "begin 1", "sql 1 select id from notes -> ok 1: 1", "sql 2 select id from notes -> ok", "commit 2 -> conflict", "commit 1")
}

// A commit takes just the tables that it wrote; those of others stay as they are committed by then.
func TestCommitsOfOtherTables(t *testing.T) {
	e := wantScript(t, manySectors, "create cases", "create marks", "create notes", "begin 0", "begin 1", "begin 2",
		"sql 0 insert into cases values (1, null, null, null) -> ok 1", "sql 1 insert into marks values (x'00', 'a', null) -> ok 1", "sql 2 insert into notes values (3, 'c') -> ok 1",
		"commit 2", "commit 0", "commit 1", "begin 0", "sql 0 select id from cases -> ok 1: 1", "sql 0 select word from marks -> ok 1: 'a'", "sql 0 select what from notes -> ok 1: 'c'")
	if e.Time != 6 || !slices.Equal(e.Changed, []int{5, 6, 4}) || e.Sessions[0].Since != 6 {
		t.Error(shownEngine(e))
	}
}

// One that wrote nothing is not saved: the disk, the time and what changed when stay.
func TestCommitsWithoutWrites(t *testing.T) {
	head := []string{"create cases", "begin 1", "sql 1 insert into cases values (1, null, 1, null) -> ok 1", "commit 1"}
	before := wantScript(t, manySectors, head...)
	for _, lines := range [][]string{nil, {"sql 0 select id from cases -> ok 1: 1"}, {"sql 0 update cases set n = 1 -> ok"}, {"sql 0 delete from cases where false -> ok"}, {"sql 0 insert into cases values (1, null, 1, null) -> twice"}, {"sql 0 select none from cases -> name at 2"}} {
		e := wantScript(t, manySectors, slices.Concat(head, []string{"begin 0"}, lines, []string{"commit 0"})...)
		if !sameEngine(e, before) {
			t.Errorf("%v was committed:\n%s\nbefore\n%s", lines, shownEngine(e), shownEngine(before))
		}
	}
	// what was written and taken back is written all the same
	e := wantScript(t, manySectors, append(head, "begin 0", "sql 0 update cases set n = 2 -> ok 1", "sql 0 update cases set n = 1 -> ok 1", "commit 0")...)
	if e.Time != before.Time+1 || e.Changed[0] != e.Time || sameDisk(e.Disk, before.Disk) || !sameData(e.Data, before.Data) {
		t.Error(shownEngine(e))
	}
}

// Each number of sessions that read one table, of which one writes to it.
func TestManyReadersOfOneTable(t *testing.T) {
	for writer := range 3 {
		for first := range 3 {
			script := []string{"create notes", "begin 0", "begin 1", "begin 2"}
			for s := range 3 {
				script = append(script, fmt.Sprintf("sql %d select count(*) from notes -> ok 1: 0", s))
			}
			script = append(script, fmt.Sprintf("sql %d insert into notes values (%d, null) -> ok 1", writer, writer))
			gone := false
			for turn := range 3 {
				s := (first + turn) % 3
				reply := "ok"
				if gone {
					reply = "conflict"
				}
				script = append(script, fmt.Sprintf("commit %d -> %s", s, reply))
				gone = gone || s == writer
			}
			e := wantScript(t, manySectors, script...)
			if len(e.Data[0].Rows) != 1 || e.Time != 2 {
				t.Error(script, shownEngine(e))
			}
		}
	}
}
