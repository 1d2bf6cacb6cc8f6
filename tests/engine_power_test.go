package tests

import (
	"fmt"
	"slices"
	"strings"
	"testing"

	"loop.example/g00208/impl"
)

// ranOn are the engine and the replies of calls that are all to be fine.
func ranOn(t *testing.T, sectors int, calls []impl.Call) (impl.Engine, []impl.CallReply) {
	t.Helper()
	e, replies, c := impl.EngineRun(sectors, calls)
	code(t, "EngineRun", c, impl.OK)
	return e, replies
}

func flagText(flags []bool) string {
	var b strings.Builder
	for _, keep := range flags {
		b.WriteByte("01"[map[bool]int{true: 1}[keep]])
	}
	return b.String()
}

// waiting is how many writes are in the cache behind some acts.
func waiting(acts []impl.DiskAct) int {
	count := 0
	for _, a := range acts {
		count++
		if a.Kind == impl.DkSync {
			count = 0
		}
	}
	return count
}

// savesOf are scripts of which the last call commits, and how many sectors their disks have.
func savesOf() []struct {
	sectors int
	script  []string
} {
	return []struct {
		sectors int
		script  []string
	}{
		{6, []string{"create a(x int) key 1", "begin 0", "sql 0 insert into a values (1)"}},
		{6, []string{"create a(x int) key 1", "begin 1", "sql 1 insert into a values (5)", "commit 1", "begin 0", "sql 0 update a set x = 4 -> guard", "sql 0 delete from a"}},
		{10, []string{"create notes", "begin 0", "sql 0 insert into notes values (1, 'one')", "begin 1", "sql 1 select id from notes", "begin 2", "sql 2 insert into notes values (7, 'seven')"}},
		{40, []string{"create cases", "create notes", "rule r on cases insert 1 when n > 0 set n = n - 1 into notes (id, status)", "guard cases 1 >a a>b", "begin 1", "sql 1 insert into cases values (1, 'a', 2, true)", "commit 1",
			"begin 0", "sql 0 insert into cases values (2, 'a', 3, null)", "sql 0 update cases set status = 'b' where id = 1"}},
	}
}

// beforeArrow leaves off what calls are to be told.
func beforeArrow(script []string) []string {
	var left []string
	for _, line := range script {
		line, _, _ = strings.Cut(line, " -> ")
		left = append(left, line)
	}
	return left
}

// Wherever the power goes in a commit, and whatever it keeps, there is what was there before, or what is committed:
// the last as soon as the meta is on the disk. All goes on behind that.
func TestPowerCutsInACommit(t *testing.T) {
	d := &dice{state: 1801}
	for i, x := range savesOf() {
		calls := callsOf(beforeArrow(x.script)...)
		before, _ := ranOn(t, x.sectors, calls)
		after, replies := ranOn(t, x.sectors, append(slices.Clone(calls), callOf("commit 0")))
		if replies[len(calls)].Code != impl.OK || after.Time != before.Time+1 {
			t.Fatal("script", i, "does not commit", shownCalls(calls, replies))
		}
		acts := actsBetween(t, before, after)
		for cut := 1; cut <= len(acts)+2; cut++ {
			done := min(cut, len(acts))
			for _, flags := range flagsFor(waiting(acts[:done]), d) {
				end := append(slices.Clone(calls), callOf(fmt.Sprintf("crash 0 %d %s", cut, flagText(flags))))
				e, replies := wantEngine(t, x.sectors, end)
				want := before
				if done == len(acts) || done == len(acts)-1 && len(flags) > 0 && flags[0] {
					want = after
				}
				if r := replies[len(calls)]; !sameReply(r, impl.CallReply{Count: done}) {
					t.Fatalf("script %d, cut %d, flags %v: %s", i, cut, flags, shownReply(r))
				}
				if !sameTables(e.Tables, want.Tables) || !sameData(e.Data, want.Data) || !sameRules(e.Rules, before.Rules) || len(e.Guards) != len(before.Guards) || e.Time != before.Time+1 {
					t.Fatalf("script %d, cut %d, flags %v\n%s\nwant data %s", i, cut, flags, shownEngine(e), shownData(want.Data))
				}
				for at, changed := range e.Changed {
					if changed != e.Time || e.Tables[at].Name == "" {
						t.Fatal("behind a power cut", shownEngine(e))
					}
				}
				wantGoesOn(t, x.sectors, end, e)
			}
		}
	}
}

// wantGoesOn asks of what a power cut left: it is seen by who begins, and changed again.
func wantGoesOn(t *testing.T, sectors int, calls []impl.Call, e impl.Engine) {
	t.Helper()
	name := e.Tables[len(e.Tables)-1].Name
	column := e.Tables[len(e.Tables)-1].Columns[0].Name
	more := callsOf("commit 0", "begin 0", "sql 0 select "+column+" from "+name, "sql 0 delete from "+name, "commit 0", "crash", "begin 2", "sql 2 select count(*) from "+name)
	next, replies := ranOn(t, sectors, append(slices.Clone(calls), more...))
	told := replies[len(calls):]
	rows := e.Data[len(e.Data)-1].Rows
	if told[0].Code != impl.ErrClosed || told[2].Count != len(rows) || told[3].Count != len(rows) || told[4].Code != impl.OK || told[7].Rows[0][0] != num(0) || len(next.Data[len(e.Data)-1].Rows) != 0 {
		t.Fatal("behind a power cut\n", shownCalls(more, told))
	}
}

// actsBetween are the acts that led from an engine's disk to a later one's.
func actsBetween(t *testing.T, before, after impl.Engine) []impl.DiskAct {
	t.Helper()
	dump, c := impl.DumpBytes(after.Tables, after.Data)
	code(t, "DumpBytes", c, impl.OK)
	acts, c := impl.SavePlan(before.Disk, string(sealOf(dump)), nil)
	code(t, "SavePlan", c, impl.OK)
	if !sameDisk(played(t, before.Disk, acts), after.Disk) {
		t.Fatal("a disk is not the one that was saved to, of epoch", opened(t, "after", after.Disk).Epoch)
	}
	return acts
}

// Also where no call can let the power go: within a catalog's step, and a restore.
func TestPowerCutsInOtherSaves(t *testing.T) {
	d := &dice{state: 1802}
	for _, x := range []struct {
		sectors int
		script  []string
		last    string
	}{
		{6, nil, "create a(x int) key 1"},
		{6, []string{"create a(x int) key 1"}, "drop a"},
		{30, []string{"create notes", "begin 0", "sql 0 insert into notes values (1, 'a')", "sql 0 insert into notes values (2, 'b')", "commit 0"}, "column notes n int null = 5"},
		{30, []string{"create notes", "begin 0", "sql 0 insert into notes values (1, 'a')", "commit 0"}, "index notes x 1"},
		{30, []string{"create notes", "index notes x 1"}, "dropindex notes x"},
		{40, []string{"create notes", "backup", "begin 0", "sql 0 insert into notes values (1, 'a')", "commit 0", "create cases"}, "restore"},
		{10, []string{"backup", "create a(x int) key 1"}, "restore"},
		{256, []string{"create cases", "begin 2", "sql 2 insert into cases values (1, 'a', 2, true)"}, "commit 2"},
	} {
		calls := callsOf(x.script...)
		before, _ := wantEngine(t, x.sectors, calls)
		after, _ := wantEngine(t, x.sectors, append(slices.Clone(calls), callOf(x.last)))
		acts := actsBetween(t, before, after)
		for cut := range len(acts) + 1 {
			broken := played(t, before.Disk, acts[:cut])
			for _, flags := range flagsFor(len(broken.Cache), d) {
				want := before
				if cut == len(acts) || cut == len(acts)-1 && len(flags) > 0 && flags[0] {
					want = after
				}
				wantStored(t, fmt.Sprintf("%s, cut %d, flags %v", x.last, cut, flags), crashed(t, broken, flags), want.Tables, want.Data, impl.OK)
			}
		}
	}
}

// A power cut of no commit: without a Cut above 0, of no session that is open, or of one that would commit nothing.
func TestPowerCutsWithoutACommit(t *testing.T) {
	begun := []string{"create notes", "create cases", "begin 1", "sql 1 insert into notes values (1, 'a') -> ok 1", "commit 1", "begin 0", "sql 0 insert into notes values (2, 'b') -> ok 1", "begin 1", "sql 1 select id from notes -> ok 1: 1"}
	want := dataOf("cases:", "notes: 1, 'a'")
	for _, c := range []string{
		"crash", "crash 0 0", "crash 0 -1", fmt.Sprint("crash 0 ", least), "crash 0 0 1111111",
		"crash -1 9", "crash 3 9 1", "crash 2 9 1", "crash 2 1", "crash 1 9 1111", fmt.Sprint("crash ", least, " ", greatest), fmt.Sprint("crash ", greatest, " 1 1"), "crash 256 5",
	} {
		e := wantScript(t, manySectors, append(slices.Clone(begun), c, "commit 0 -> closed", "commit 1 -> closed")...)
		if !sameData(e.Data, want) || e.Time != 4 || !slices.Equal(e.Changed, []int{4, 4}) {
			t.Error(c, shownEngine(e))
		}
	}
	for _, c := range []string{"crash 0 5", "crash 0 99 1", fmt.Sprint("crash 0 ", greatest)} {
		// a conflict, a session that wrote nothing any more, one without room
		e := wantScript(t, manySectors, "create notes", "begin 0", "begin 1", "sql 0 insert into notes values (2, 'b') -> ok 1", "sql 1 insert into notes values (1, 'a') -> ok 1", "commit 1", c, "begin 2", "sql 2 select id from notes -> ok 1: 1")
		if e.Time != 3 {
			t.Error(c, shownEngine(e))
		}
		wantScript(t, manySectors, "create notes", "begin 0", "sql 0 delete from notes -> ok", "sql 0 insert into notes values (null, null) -> null", c)
		wantScript(t, manySectors, "create notes", "begin 0", c, "crash")
		wantScript(t, manySectors, "create notes", "begin 0", "commit 0", c)
		wantScript(t, manySectors, "begin 0", "sql 0 select id from notes -> name at 3", c)
		wantScript(t, 4, "create a(x int) key 1", "begin 0", "sql 0 insert into a values (1) -> ok 1", c, "begin 0", "sql 0 select x from a -> ok")
	}
	if e := wantScript(t, manySectors, "crash", "crash 0 9 111", "crash"); e.Time != 3 || len(e.Tables) != 0 {
		t.Error("power cuts of an empty engine", shownEngine(e))
	}
}

// Flags that there are no writes for are passed over; writes without a flag are lost.
func TestFlagsOfPowerCuts(t *testing.T) {
	calls := callsOf("create a(x int) key 1", "begin 0", "sql 0 insert into a values (1)")
	before, _ := ranOn(t, 8, calls)
	after, _ := ranOn(t, 8, append(slices.Clone(calls), callOf("commit 0")))
	acts := len(actsBetween(t, before, after))
	if acts != 5 {
		t.Fatal("a small commit has", acts, "acts")
	}
	for _, c := range []struct {
		cut   int
		flags string
		kept  bool
	}{
		{1, "1111111", false}, {2, "11", false}, {3, "11111", false}, {3, "", false}, {4, "", false}, {4, "0", false}, {4, "01", false}, {4, "0111111", false}, {4, "1", true}, {4, "1000", true}, {4, "1111111", true},
		{5, "", true}, {5, "000", true}, {5, "1", true}, {6, "", true}, {greatest, "0", true}, {0, "1", false}, {-4, "1", false},
	} {
		e := wantScript(t, 8, append([]string{"create a(x int) key 1", "begin 0", "sql 0 insert into a values (1) -> ok 1"}, strings.TrimRight(fmt.Sprintf("crash 0 %d %s", c.cut, c.flags), " ")+map[bool]string{true: fmt.Sprint(" -> ok ", min(c.cut, 5))}[c.cut > 0])...)
		if got := len(e.Data[0].Rows) == 1; got != c.kept {
			t.Errorf("cut %d with flags %q: kept %v", c.cut, c.flags, got)
		}
	}
	long := impl.Call{Kind: impl.EnCrash, Cut: 4, Keep: slices.Repeat([]bool{true}, impl.MaxList)}
	e, _ := wantEngine(t, 8, append(slices.Clone(calls), long))
	if len(e.Data[0].Rows) != 1 {
		t.Error("with many flags", shownEngine(e))
	}
}

// Many power cuts, one behind the other, each of the same commit, which is begun anew until it is there.
func TestCommitsThatAreBegunAgain(t *testing.T) {
	for sectors := 6; sectors < 12; sectors++ {
		for keep := range 2 {
			script := []string{"create a(x int) key 1"}
			for cut := 1; cut <= 5; cut++ {
				reply := "ok"
				if keep == 1 && cut == 5 { // what was kept at cut 4 is there already
					reply = "twice"
				}
				script = append(script, "begin 1", fmt.Sprintf("sql 1 insert into a values (1) -> %s", map[string]string{"ok": "ok 1", "twice": "twice"}[reply]))
				count := fmt.Sprint(" -> ok ", cut)
				if reply == "twice" {
					count = ""
				}
				script = append(script, fmt.Sprintf("crash 1 %d %s%s", cut, strings.Repeat(fmt.Sprint(keep), 3), count))
			}
			e := wantScript(t, sectors, append(script, "begin 0", "sql 0 select x from a -> ok 1: 1")...)
			if e.Time != 6 {
				t.Error(shownEngine(e))
			}
		}
	}
}
