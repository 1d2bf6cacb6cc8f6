package tests

import (
	"fmt"
	"slices"
	"strings"
	"testing"

	"loop.example/g00208/impl"
)

// insertsOf are statements of session 0 that put the rows of data into their tables.
func insertsOf(data []impl.Data) []impl.Call {
	var calls []impl.Call
	for _, d := range data {
		for _, r := range d.Rows {
			values, _ := impl.RowText(r)
			calls = append(calls, impl.Call{Kind: impl.EnSql, Text: "insert into " + d.Name + " values " + values})
		}
	}
	return calls
}

// wideCalls create wideTable, and commit rows of which the dump has just so many bytes.
func wideCalls(t *testing.T, size int) []impl.Call {
	t.Helper()
	list, data := wideData(t, size)
	return slices.Concat([]impl.Call{{Kind: impl.EnCatalog, Catalog: create(list[0])}}, callsOf("begin 0"), insertsOf(data), callsOf("commit 0"))
}

// codesOf are the words of what calls were told.
func codesOf(replies []impl.CallReply) []string {
	var words []string
	for _, r := range replies {
		words = append(words, impl.CodeWord(r.Code))
	}
	return words
}

// A sealed dump has at most MaxBlob bytes.
func TestTheGreatestDumps(t *testing.T) {
	for size := impl.MaxBlob - sealAround - 3; size <= impl.MaxBlob-sealAround+3; size++ {
		calls := append(wideCalls(t, size), callsOf("begin 1", "sql 1 select count(*) from wide", "commit 1", "commit 0")...)
		e, replies := wantEngine(t, manySectors, calls)
		for i, r := range replies[:len(replies)-5] {
			if r.Code != impl.OK {
				t.Fatal(size, "bytes:", shownCall(calls[i]), shownReply(r))
			}
		}
		last := replies[len(replies)-5:]
		if size+sealAround <= impl.MaxBlob {
			if last[0].Code != impl.OK || e.Time != 2 || len(e.Data[0].Rows) != len(calls)-7 {
				t.Error(size, "bytes do not go in", codesOf(last))
			}
		} else if last[0].Code != impl.ErrFull || e.Time != 1 || len(e.Data[0].Rows) != 0 || last[2].Rows[0][0].N != 0 {
			t.Error(size, "bytes go in, or leave something", codesOf(last), shownEngine(e))
		}
		if last[4].Code != impl.ErrClosed {
			t.Error("a commit leaves its session open", codesOf(last))
		}
	}
}

// Rules make more rows of a few statements than even a seal holds.
func TestDumpsThatNoSealHolds(t *testing.T) {
	long := strings.Repeat(", '"+strings.Repeat("w", impl.MaxCell)+"'", impl.MaxCells-1)
	begun := []string{"create many(id int, a text, b text, c text, d text, e text, f text, g text) key 1", "begin 0"}
	for id := 0; id < 150; id += 50 {
		begun = append(begun, fmt.Sprintf("sql 0 insert into many values (%d%s)", id, long))
	}
	copied := impl.Rule{Name: "copied", Table: "many", Event: impl.EvInsert, When: parsedExpr("id % 50 < 49"), Into: "many", Exprs: parsed("insert into t values (id + 1, a, b, c, d, e, f, g)").Kids}
	calls := callsOf(begun...)
	calls = slices.Insert(calls, 1, impl.Call{Kind: impl.EnRule, Rule: copied})
	for _, end := range []string{"commit 0", "crash 0 9"} {
		e, replies := wantEngine(t, manySectors, append(slices.Clone(calls), callsOf(end, "backup", "begin 1", "sql 1 select count(*) from many")...))
		told := replies[len(calls):]
		if replies[len(calls)-1].Count != 50 || told[0].Count != 0 || told[1].Count != 2 || told[3].Rows[0][0] != num(0) || len(e.Data[0].Rows) != 0 {
			t.Error(end, shownCalls(calls, replies))
		}
		if end == "commit 0" && told[0].Code != impl.ErrFull {
			t.Error("a commit without room", shownReply(told[0]))
		}
	}
	open, _ := ranOn(t, manySectors, calls)
	dump, _ := dumpByWords(open.Tables, open.Sessions[0].Data)
	if _, code := impl.SealBytes(dump); code != impl.ErrLong {
		t.Error("a seal holds", len(dump), "bytes")
	}
}

// A catalog's step needs room for a longer text, or for what its rows get.
func TestCatalogStepsWithoutRoom(t *testing.T) {
	const full = impl.MaxBlob - sealAround
	for _, c := range []struct {
		word  string
		bytes int
	}{
		{"index wide i 0", len(" index i(id)")},
		{"create b(x int) key 1", 2 + len("b(x int) key 1") + 2},
		{"drop none -> name", 0},
		{"index wide i 9 -> bad", 0},
	} {
		line, wanted, fails := strings.Cut(c.word, " -> ")
		for missing := range 3 {
			calls := append(wideCalls(t, full-c.bytes+missing-1), callOf(line), callOf("backup"))
			_, replies := wantEngine(t, manySectors, calls)
			want := "ok"
			if c.bytes > 0 && missing > 1 {
				want = "full"
			} else if fails {
				want = wanted
			}
			if got := codesOf(replies[len(replies)-3:]); got[1] != want || c.bytes > 0 && got[0] != "ok" {
				t.Errorf("%s with %d bytes left: %v, want %s", line, c.bytes-missing+1, got, want)
			}
		}
	}
	// rows that get a text: 60 bytes and 2 of each
	script := []string{"create a(x int) key 1", "begin 0"}
	for x := range 40 {
		script = append(script, fmt.Sprintf("sql 0 insert into a values (%d) -> ok 1", x))
	}
	script = append(script, "commit 0", fmt.Sprintf("column a b text = '%s'", strings.Repeat("b", 60)), "rule r on a insert 1 when true", fmt.Sprintf("column a c bytes = x'%s' -> full", strings.Repeat("00", 3)), "column a c bytes null = null", "begin 1", "sql 1 select count(*) from a where c is null -> ok 1: 40", "commit 1")
	e := wantScript(t, manySectors, script...)
	if size := 40*(1+9+62+1) + len("a(x int, b text, c bytes null) key 1") + 5 + sealAround; size > impl.MaxBlob || size+40 < impl.MaxBlob || len(e.Tables[0].Columns) != 3 {
		t.Error("a table of", size, "bytes:", shownEngine(e))
	}
}

// What is open stays open until what is new is saved: a disk has to have room for both.
func TestDisksThatAreTooSmall(t *testing.T) {
	wantScript(t, 4, "create a(x int) key 1", "create b(x int) key 1 -> full", "drop a -> full", "begin 0", "sql 0 select x from a -> ok", "commit 0", "begin 0", "sql 0 insert into a values (1) -> ok 1", "sql 0 select x from a -> ok 1: 1",
		"commit 0 -> full", "commit 0 -> closed", "begin 0", "sql 0 select x from a -> ok", "crash", "index a i 0 -> full", "rule r on a insert 1 when true", "backup -> ok 1", "restore -> full", "create a(x int) key 1 -> twice")
	wantScript(t, 4, "create cases -> full", "begin 0", "sql 0 select id from cases -> name at 3", "commit 0", "backup -> ok 1", "restore", "restore", "restore")
	wantScript(t, 5, "create a(x int) key 1", "drop a", "create a(x int) key 1", "create b(x int) key 1 -> full", "begin 0", "sql 0 insert into a values (1) -> ok 1", "commit 0 -> full")
	wantScript(t, 6, "create a(x int) key 1", "begin 0", "sql 0 insert into a values (1) -> ok 1", "commit 0", "begin 0", "sql 0 insert into a values (2) -> ok 1", "commit 0", "begin 0", "sql 0 insert into a values (3) -> ok 1", "commit 0 -> full")
	// a disk on which the greatest dump is saved once, and twice
	const size = impl.MaxBlob - sealAround
	pages := func(bytes int) int { return (bytes + sealAround + 26) / 27 }
	empty, full := pages(len(rawDump(1, partOf(textByWords(wideTable()))))), pages(size)
	calls := append(wideCalls(t, size), callsOf("begin 1", "sql 1 update wide set a = '"+strings.Repeat("q", impl.MaxCell)+"' where id = 0", "commit 1")...)
	for _, c := range []struct {
		sectors     int
		once, twice string
	}{
		{2 + empty + full - 1, "full", "ok"}, {2 + empty + full, "ok", "full"}, {2 + 2*full - 1, "ok", "full"}, {2 + 2*full, "ok", "ok"},
	} {
		_, replies := wantEngine(t, c.sectors, calls)
		if once, twice := impl.CodeWord(replies[len(calls)-4].Code), impl.CodeWord(replies[len(calls)-1].Code); once != c.once || twice != c.twice {
			t.Errorf("%d sectors: %s, then %s, want %s, then %s", c.sectors, once, twice, c.once, c.twice)
		}
	}
}

// Each number of sectors, and rows until there is no room: then the last ones that were committed are there.
func TestDisksThatFillUp(t *testing.T) {
	for sectors := 4; sectors <= 40; sectors++ {
		script := []string{"create notes"}
		for id := range 18 {
			script = append(script, "begin 0", fmt.Sprintf("sql 0 insert into notes values (%d, '%s')", id, strings.Repeat("n", id*3)), "commit 0")
		}
		calls := callsOf(script...)
		e, replies := wantEngine(t, sectors, calls)
		for i, word := range codesOf(replies) {
			if word != "ok" && (word != "full" || calls[i].Kind != impl.EnCommit) {
				t.Error(sectors, "sectors:", shownCall(calls[i]), word)
			}
		}
		kept := 0
		for i, c := range calls {
			if c.Kind == impl.EnCommit && replies[i].Code == impl.OK {
				kept++
			}
		}
		if kept != len(e.Data[0].Rows) || kept != e.Time-1 || sectors == 4 && kept != 0 || sectors == 40 && kept < 5 {
			t.Error(sectors, "sectors:", kept, "commits", shownEngine(e))
		}
	}
}
