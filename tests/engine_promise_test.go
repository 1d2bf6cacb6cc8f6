package tests

import (
	"fmt"
	"slices"
	"strings"
	"testing"

	"loop.example/g00208/impl"
)

// sessionCalls begin, ask, and end; all of one session.
func sessionCalls(session int, statements ...string) []impl.Call {
	list := callsOf(fmt.Sprint("begin ", session))
	for _, s := range statements {
		list = append(list, callOf(fmt.Sprintf("sql %d %s", session, s)))
	}
	return append(list, callOf(fmt.Sprint("commit ", session)))
}

// wantSerial holds what an engine tells against what SerialRun does.
func wantSerial(t *testing.T, sectors int, calls []impl.Call) (impl.Engine, []impl.CallReply) {
	t.Helper()
	e, replies := ranOn(t, sectors, calls)
	serial, code := impl.SerialRun(sectors, calls)
	if code != impl.OK || !sameReplies(serial, replies) {
		t.Fatalf("one by one\n%s\nin each other's midst\n%s", shownCalls(calls, serial), shownCalls(calls, replies))
	}
	return e, replies
}

// wantAsOneByOne runs the transactions that commit anew, whole, one behind the other, each in its commit's place:
// they are to be told the same, and to leave the same.
func wantAsOneByOne(t *testing.T, head int, calls []impl.Call, e impl.Engine, replies []impl.CallReply) int {
	t.Helper()
	line, places := slices.Clone(calls[:head]), run(0, head)
	commits := 0
	for i := head; i < len(calls); i++ {
		if calls[i].Kind != impl.EnCommit || replies[i].Code != impl.OK {
			continue
		}
		commits++
		for at := head; at <= i; at++ { // each session has one transaction alone
			if calls[at].Session == calls[i].Session {
				c := calls[at]
				c.Session = 0
				line, places = append(line, c), append(places, at)
			}
		}
	}
	alone, told, code := impl.EngineRun(fewSectors, line)
	for i, r := range told {
		if !sameReply(r, replies[places[i]]) {
			t.Fatalf("one by one: %s: %s\nin each other's midst\n%s", shownCall(line[i]), shownReply(r), shownCalls(calls, replies))
		}
	}
	if code != impl.OK || !sameTables(alone.Tables, e.Tables) || !sameData(alone.Data, e.Data) || alone.Time != e.Time || !slices.Equal(alone.Changed, e.Changed) || !sameDisk(alone.Disk, e.Disk) {
		t.Fatalf("one by one:\n%s\nin each other's midst\n%s\n%s", shownEngine(alone), shownEngine(e), shownCalls(calls, replies))
	}
	return commits
}

// wantCommitted asks of the disk behind each call: a commit that went well is there, and nothing else.
func wantCommitted(t *testing.T, sectors int, calls []impl.Call, replies []impl.CallReply) {
	t.Helper()
	var list []impl.Table
	var data []impl.Data
	for i, c := range calls {
		e, _, code := impl.EngineRun(sectors, calls[:i+1])
		if code != impl.OK {
			t.Fatal("EngineRun of a beginning", impl.CodeWord(code))
		}
		saves := replies[i].Code == impl.OK && (c.Kind == impl.EnCommit || c.Kind == impl.EnCatalog || c.Kind == impl.EnRestore) || c.Kind == impl.EnCrash
		if saves {
			list, data = e.Tables, e.Data
		}
		if !sameTables(e.Tables, list) || !sameData(e.Data, data) {
			t.Fatalf("%s changes what is committed\n%s", shownCall(c), shownCalls(calls[:i+1], replies))
		}
		wantStored(t, "behind "+shownCall(c), e.Disk, list, data, impl.OK)
	}
}

// transactionsInTouch are of sessions 0, 1 and 2, and have many conflicts with each other.
func transactionsInTouch() [][][]string {
	const count, most = "select count(*), sum(n) from cases", "select max(id) from notes"
	return [][][]string{
		{{count, "insert into notes values (5, 'a')"}, {most, "insert into cases values (5, 'a', 7, null)"}},
		{{"update cases set n = n + 1 where id = 1", count}, {"update cases set n = n * 10 where id = 1", "select n from cases order by n"}},
		{{"insert into notes values (5, 'a')", "select count(*) from notes"}, {"insert into notes values (5, 'b')", most}},
		{{count, count, count}, {"update cases set n = 0", "delete from notes where id > 1", "insert into notes values (9, null)"}},
		{{"delete from cases where n > 1"}, {"update cases set n = 5 where id = 2", "insert into cases values (7, 'b', null, null)"}},
		{{"insert into cases values (8, 'rule', 1, null)", most}, {"delete from notes", "insert into notes values (80, 'mine')"}},
		{{"select 1 / count(*) from notes", "select n / 0 from cases"}, {"delete from notes", "delete from cases"}},
		{{"select none from cases", count}, {"update cases set n = 9223372036", "insert into cases values (1, null, null, null)"}},
		{{"update cases set n = n + 1 where id = 1"}, {"update cases set n = n + 1 where id = 1"}, {"update cases set n = n + 1 where id = 1"}},
		{{count}, {"insert into notes values (5, 'a')"}, {"insert into cases values (3, 'a', 4, null)"}},
		{{"update notes set what = 'x'"}, {"select what from notes join cases on notes.id = cases.id"}, {"update cases set n = 3"}},
		{{"insert into log values (1, 1, 'x', 1)"}, {"insert into cases values (8, 'rule', 1, null)"}, {"insert into log values (8, 80, 'x', 1)"}},
	}
}

// Every order of a few transactions, with rules and without them.
func TestAllOrdersOfAFewTransactions(t *testing.T) {
	tables := []string{"create cases", "create log", "create notes", "begin 0", "sql 0 insert into cases values (1, 'one', 1, null)", "sql 0 insert into cases values (2, 'two', 2, true)", "sql 0 insert into notes values (1, 'one')", "commit 0"}
	ruled := append(slices.Clone(tables), "rule r on cases insert 1 when status = 'rule' into notes (id * 10, status)", "rule s on notes insert 1 when id > 50 into log (id / 10, id, what, 1)", "rule u on cases update 5 when n > 100 set n = 100", "guard notes 1 >a >b >rule >mine > a>x one>x")
	conflicts, commits := 0, 0
	for i, transactions := range transactionsInTouch() {
		for turn, words := range [][]string{tables, ruled} {
			if len(transactions) > 2 && turn != i%2 {
				continue // of three there are many orders
			}
			head := callsOf(words...)
			var sessions [][]impl.Call
			for s, statements := range transactions {
				sessions = append(sessions, sessionCalls(s, statements...))
			}
			orders := 0
			eachMix(sessions, head, func(calls []impl.Call) {
				e, replies := wantSerial(t, fewSectors, calls)
				count := wantAsOneByOne(t, len(head), calls, e, replies)
				commits += count
				conflicts += len(transactions) - count
				if count == 0 {
					t.Fatal("nobody commits\n", shownCalls(calls, replies))
				}
				if orders%80 == 0 {
					wantCommitted(t, fewSectors, calls, replies)
					wantEngine(t, fewSectors, calls)
				}
				orders++
			})
		}
	}
	if conflicts < 1000 || commits < 1000 {
		t.Error("too few of a kind:", conflicts, "conflicts,", commits, "commits")
	}
}

// With an abort, or a power cut, in place of a commit, at every place of the other ones.
func TestAllOrdersWithOtherEnds(t *testing.T) {
	orders := 0
	head := callsOf("create cases", "create notes", "begin 2", "sql 2 insert into cases values (1, 'one', 1, null)", "commit 2")
	first := sessionCalls(0, "select sum(n) from cases", "insert into notes values (1, 'a')")
	for _, end := range []string{"abort 0", "commit 0", "crash 0 99", "crash 0 3", "crash 0 7 1", "crash 1 99", "crash", "crash 1 1 1", "backup"} {
		for _, statement := range []string{"update cases set n = n + 1", "update notes set what = 'b'", "insert into notes values (2, 'b')", "select count(*) from notes"} {
			first[len(first)-1] = callOf(end)
			second := append(sessionCalls(1, statement), callsOf("begin 0", "sql 0 select count(*) from notes", "commit 0")...)
			eachMix([][]impl.Call{first, second}, head, func(calls []impl.Call) {
				if orders++; orders%3 == 0 {
					wantEngine(t, fewSectors, calls)
					return
				}
				wantSerial(t, fewSectors, calls)
			})
		}
	}
}

// rolledCalls are of three sessions, some of them with faults, over ruledTables.
func rolledCalls(d *dice, count int) []impl.Call {
	var calls []impl.Call
	for _, x := range shuffled(d, ruledTables())[:2+d.below(3)] {
		calls = append(calls, impl.Call{Kind: impl.EnCatalog, Catalog: create(x)})
	}
	for range d.below(4) {
		if d.below(4) == 0 {
			calls = append(calls, impl.Call{Kind: impl.EnGuard, Guard: rolledGuard(d)})
			continue
		}
		x := ruledTables()[d.below(4)]
		calls = append(calls, impl.Call{Kind: impl.EnRule, Rule: rolledRule(d, x, 1+d.below(3), 0)})
	}
	open := [3]bool{}
	for len(calls) < count {
		calls = append(calls, rolledCall(d, &open))
	}
	return roomy(calls, impl.Call{Kind: 77})
}

// rolledCall more often than not fits what is open.
func rolledCall(d *dice, open *[3]bool) impl.Call {
	s := d.below(3)
	c := impl.Call{Session: s}
	switch turn := d.below(100); {
	case turn == 0:
		return impl.Call{Kind: d.below(14) - 1, Session: d.below(5) - 1, Text: "select 1 from cases", Cut: d.below(20), Catalog: rolledCatAct(d)}
	case turn < 4:
		*open = [3]bool{}
		c.Kind, c.Cut = impl.EnCrash, []int{0, 1, 3, 5, 6, 7, 8, 9, 12, 99}[d.below(10)]
		for range d.below(9) {
			c.Keep = append(c.Keep, d.below(2) == 0)
		}
		c.Keep = roomy(c.Keep, true)
	case turn < 7:
		c.Kind = []int{impl.EnBackup, impl.EnRestore, impl.EnRestore}[d.below(3)]
	case turn < 10:
		x := ruledTables()[d.below(4)]
		c = []impl.Call{{Kind: impl.EnRule, Rule: rolledRule(d, x, 1+d.below(3), 9)}, {Kind: impl.EnGuard, Guard: rolledGuard(d)},
			{Kind: impl.EnCatalog, Catalog: addColumn(x.Name, col("m int null"), num(1))}, {Kind: impl.EnCatalog, Catalog: addIndex(x.Name, index("byrolled", d.below(3)))}, {Kind: impl.EnCatalog, Catalog: create(x)}, {Kind: impl.EnCatalog, Catalog: drop(x.Name)}, {Kind: impl.EnCatalog, Catalog: create(x)}}[d.below(7)]
	case !open[s] && turn > 12:
		c.Kind, open[s] = impl.EnBegin, true
	case turn < 30:
		c.Kind, open[s] = impl.EnCommit, false
	case turn < 33:
		c.Kind, open[s] = impl.EnAbort, false
	default:
		n := rolledDoing(d)
		if d.below(3) == 0 {
			n = rolledAsk(d, ruledTables(), 0)
		}
		c.Kind = impl.EnSql
		c.Text, _ = impl.PrintSql(n)
	}
	return c
}

// Rolled runs of all kinds of calls, by the words and one by one, on disks of all sizes.
func TestRolledEngines(t *testing.T) {
	d := &dice{state: 1803}
	told := map[string]int{}
	for turn := range 1500 {
		sectors := []int{256, 256, 100, 60, 40, 4 + d.below(30)}[d.below(6)]
		calls := rolledCalls(d, 10+d.below(51))
		e, replies := wantEngine(t, sectors, calls)
		for i, c := range calls {
			if c.Kind > 0 && c.Kind < len(kindsOfCalls) {
				told[kindsOfCalls[c.Kind]+" "+impl.CodeWord(replies[i].Code)]++
			}
			if c.Kind == impl.EnCrash && replies[i].Count > 0 {
				told["commits cut off"]++
			}
			if len(replies[i].Fired) > 0 {
				told["fired"]++
			}
		}
		if turn%100 == 0 {
			wantCommitted(t, sectors, calls, replies)
		}
		again, same, _ := impl.EngineRun(sectors, calls)
		if !sameEngine(e, again) || !sameReplies(replies, same) {
			t.Fatal("the same calls answer something else\n", shownCalls(calls, same))
		}
		if t.Failed() {
			t.Fatal("turn", turn)
		}
	}
	for _, kind := range strings.Split("begin ok,begin twice,sql ok,sql closed,sql name,sql twice,sql guard,sql null,sql zero,commit ok,commit conflict,commit full,commit closed,abort ok,abort closed,catalog ok,catalog conflict,catalog twice,catalog name,catalog full,rule ok,rule bad,rule conflict,guard ok,guard bad,guard conflict,crash ok,commits cut off,fired,backup ok,restore ok,restore conflict,restore form", ",") {
		if told[kind] < 5 {
			t.Error("too few of", kind, told[kind])
		}
	}
}

// What SerialRun does not run has its own reply: of a transaction that did not commit, and of one that is still open.
func TestWhatIsNotRunOneByOne(t *testing.T) {
	wantScript(t, manySectors, "create notes", "begin 0", "sql 0 insert into notes values (1, 'a') -> ok 1", "sql 0 select id from notes -> ok 1: 1", "begin 1", "sql 1 insert into notes values (1, 'b') -> ok 1", "commit 1",
		"sql 0 select what from notes -> ok 1: 'a'", "commit 0 -> conflict", "begin 0", "sql 0 delete from notes -> ok 1", "sql 0 select count(*) from notes -> ok 1: 0", "abort 0",
		"begin 2", "sql 2 delete from notes -> ok 1", "create cases -> conflict", "begin 2 -> twice", "sql 2 select count(*) from notes -> ok 1: 0", "begin 1", "sql 1 select id from notes -> ok 1: 1", "crash 2 4 -> ok 4",
		"begin 2", "sql 2 delete from notes -> ok 1", "commit 1 -> closed", "crash 2 99 -> ok 5", "begin 1", "sql 1 insert into notes values (2, 'c') -> ok 1", "sql 1 select id from notes -> ok 1: 2")
}

// A transaction is told the same, wherever its session begins and whichever it is, if nobody is in its way.
func TestSessionsAreAlike(t *testing.T) {
	d := &dice{state: 1804}
	for range 40 {
		head := rolledCalls(d, 6)
		for i := range head { // a session that is open bars others
			if head[i].Kind == impl.EnBegin {
				head[i] = impl.Call{Kind: impl.EnBackup}
			}
		}
		var first []impl.CallReply
		for session := range 3 {
			calls := slices.Clone(head)
			turn := &dice{state: 99}
			calls = append(calls, impl.Call{Kind: impl.EnBegin, Session: session})
			for range 12 {
				text, _ := impl.PrintSql(rolledDoing(turn))
				calls = append(calls, impl.Call{Kind: impl.EnSql, Session: session, Text: text})
			}
			_, replies := ranOn(t, manySectors, append(calls, impl.Call{Kind: impl.EnCommit, Session: session}))
			if session == 0 {
				first = replies
			}
			if !sameReplies(replies, first) {
				t.Fatalf("session %d is told\n%s\nsession 0\n%s", session, shownCalls(calls, replies), shownCalls(nil, first))
			}
		}
	}
}
