package tests

import (
	"fmt"
	"reflect"
	"slices"
	"strings"
	"testing"

	"loop.example/g00208/impl"
)

// eachWithin calls do with all lists that v leads to, the inner ones first, each with what stands behind its end.
func eachWithin(v reflect.Value, do func(reflect.Value)) {
	switch v.Kind() {
	case reflect.Interface:
		eachWithin(v.Elem(), do)
	case reflect.Struct:
		for i := range v.NumField() {
			eachWithin(v.Field(i), do)
		}
	case reflect.Slice:
		v = v.Slice(0, v.Cap())
		for i := range v.Len() {
			eachWithin(v.Index(i), do)
		}
		if v.Cap() > 0 {
			do(v)
		}
	}
}

// behindAll is a text of all that v has and what stands behind its ends.
func behindAll(v any) string {
	var b strings.Builder
	eachWithin(reflect.ValueOf(v), func(list reflect.Value) { fmt.Fprintf(&b, "%v\n", list) })
	return b.String()
}

// scribbleAll writes over all that v leads to, and over what stands behind its ends.
func scribbleAll(v any) {
	eachWithin(reflect.ValueOf(v), func(list reflect.Value) {
		for i := range list.Len() {
			list.Index(i).SetZero()
		}
	})
}

// span is where a list stands in memory.
type span struct {
	from, to uintptr
	list     reflect.Value
}

func spansOf(v any) []span {
	var spans []span
	eachWithin(reflect.ValueOf(v), func(list reflect.Value) {
		size := uintptr(list.Cap()) * list.Type().Elem().Size()
		spans = append(spans, span{list.Pointer(), list.Pointer() + size, list})
	})
	return spans
}

// wantOwnMemory asks that no list of an answer shares memory with another one of it, nor with one that was handed in.
func wantOwnMemory(t *testing.T, what string, answer, given any) {
	t.Helper()
	spans := spansOf(answer)
	for i, x := range spans {
		for _, y := range slices.Concat(spans[:i], spansOf(given)) {
			if x.from < y.to && y.from < x.to {
				t.Fatalf("%s: %.100v of %s shares memory with %.100v of %s", what, x.list, x.list.Type(), y.list, y.list.Type())
			}
		}
	}
}

// wordsOfEngines are calls of all kinds; many of the lists that an engine has of them come from one place.
func wordsOfEngines() [][]string {
	tables := []string{"create cases", "create log", "create notes", "create marks", "begin 0", "sql 0 insert into cases values (1, 'a', 3, true)", "sql 0 insert into notes values (1, 'one')", "sql 0 insert into notes values (2, null)", "sql 0 insert into marks values (x'00', 'a', null)", "commit 0"}
	asked := []string{"begin 1", "begin 2", "begin 0", "sql 1 select id, what from notes order by id", "sql 2 select id, what from notes order by id", "sql 1 select count(*) from cases join notes on cases.id = notes.id", "sql 1 select mark from marks", "sql 2 update notes set what = 'x' where id = 1", "sql 0 select * from cases"}
	ruled := []string{"rule r on cases insert 1 when true into notes (id * 10, status)", "rule r on cases insert 1 when true into notes (id * 10, status)", "rule s on notes insert 2 when id > 3 set what = 'set' into log (id, id, what, 0)", "guard cases 1 >a a>b", "guard notes 1 >one one>x >x >a", "guard cases 1 >a a>b"}
	return [][]string{
		nil, tables, append(slices.Clone(tables), asked...), slices.Concat(tables, ruled, asked, []string{"sql 0 insert into cases values (5, 'a', 6, null)", "sql 0 insert into cases values (6, 'b', 6, null)", "sql 1 insert into cases values (5, 'a', 6, null)", "abort 2"}),
		slices.Concat(tables, ruled, asked, []string{"sql 0 insert into cases values (5, 'a', 6, null)", "commit 0", "commit 1", "commit 2", "backup", "drop marks", "index notes x 1", "column cases more text null = 'new'", "begin 1", "begin 2"}),
		slices.Concat(tables, []string{"backup", "drop cases", "restore"}, ruled, []string{"begin 2", "sql 2 delete from notes", "crash 2 4 101", "begin 0", "sql 0 select what from notes", "begin 1", "sql 1 delete from cases", "crash 1 99", "begin 1", "begin 0", "backup"}),
		{"kind 0 0", "kind 11 1", "sql 0 select id from cases", "begin 3", "restore", "rule r on cases insert 1 when true set n = 1", "guard cases 1 >a", "crash 5 5 1", "create t(a int) key 2"},
	}
}

// someCalls have memory of their own, with room behind all ends.
func someCalls() [][]impl.Call {
	var lists [][]impl.Call
	for _, words := range wordsOfEngines() {
		lists = append(lists, callsOf(words...))
	}
	d := &dice{state: 1811}
	for range 30 {
		lists = append(lists, rolledCalls(d, 20+d.below(41)))
	}
	for _, calls := range lists {
		for i, c := range calls {
			calls[i].Rule = roomyRule(c.Rule)
			calls[i].Guard.Steps = roomy(c.Guard.Steps, impl.Entry{Key: "behind"})
			calls[i].Keep = roomy(c.Keep, true)
			if c.Catalog.Kind != 0 {
				calls[i].Catalog.Table = roomyTable(c.Catalog.Table)
				calls[i].Catalog.Index.Columns = roomy(c.Catalog.Index.Columns, 77)
			}
		}
	}
	return lists
}

// otherCalls are too many, too long, or have the greatest and the least of numbers.
func otherCalls() [][]impl.Call {
	var lists [][]impl.Call
	for _, n := range []int{least, -1, 0, 1, 2, 3, 4, greatest} {
		for kind := range 12 {
			lists = append(lists, []impl.Call{{Kind: kind, Session: n, Cut: greatest}, {Kind: impl.EnBegin}, {Kind: kind, Cut: n}, {Kind: n, Session: n, Cut: n}, {Kind: impl.EnBegin, Session: 1}, {Kind: kind, Session: 1, Cut: n}})
		}
	}
	return append(lists, make([]impl.Call, impl.MaxCalls), make([]impl.Call, impl.MaxCalls+1), make([]impl.Call, impl.MaxList), make([]impl.Call, impl.MaxList+1),
		[]impl.Call{{Text: strings.Repeat("s", impl.MaxText+1)}}, []impl.Call{{Catalog: impl.CatAct{Name: strings.Repeat("s", impl.MaxText+1)}}}, []impl.Call{{Keep: make([]bool, impl.MaxList+1)}})
}

// disksOfEngines are disks with room behind their ends, that have something, nothing, and what is none.
func disksOfEngines() []impl.Disk {
	list := slices.Concat(rightDisks(), wrongDisks(), []impl.Disk{blank(4), blank(3), put(blank(4), 1, rawMeta(impl.Meta{Epoch: 1}))})
	for _, calls := range someCalls() {
		e, _, _ := impl.EngineRun(manySectors, calls)
		list = append(list, e.Disk)
	}
	for i, d := range list {
		list[i] = impl.Disk{Sure: roomy(d.Sure, "behind"), Cache: roomy(d.Cache, impl.Pending{At: 77})}
	}
	return list
}

// askedStatements are queries and others, right ones and not.
func askedStatements() []impl.Tree {
	list := []impl.Tree{{}, {Kind: impl.NdSelect}, {Kind: least}, {Kind: greatest, Name: "cases"}, parsed("select a.id from cases as a join cases as b on a.id = b.id"), parsed("select 1 from notes"), parsed("delete from cases"), parsedExpr("1 + 2")}
	d := &dice{state: 1812}
	for range 30 {
		list = append(list, roomyTree(rolledDoing(d)), roomyTree(rolledAsk(d, ruledTables(), 0)))
	}
	return list
}

// askedOfEngines are all calls of chapter 18 with some arguments.
func askedOfEngines() []func() []any {
	var calls []func() []any
	ask := func(f func() []any) { calls = append(calls, f) }
	for _, n := range []int{least, -1, 0, 3, 4, 5, 40, impl.MaxSectors, impl.MaxSectors + 1, greatest} {
		ask(func() []any { e, c := impl.NewEngine(n); return []any{e, c} })
		for _, list := range someCalls()[:7] {
			ask(func() []any { e, replies, c := impl.EngineRun(n, list); return []any{e, replies, c} })
			ask(func() []any { replies, c := impl.SerialRun(n, list); return []any{replies, c} })
		}
	}
	for _, list := range slices.Concat(someCalls(), otherCalls()) {
		ask(func() []any { e, replies, c := impl.EngineRun(60, list); return []any{e, replies, c} })
		ask(func() []any { replies, c := impl.SerialRun(60, list); return []any{replies, c} })
	}
	for _, d := range disksOfEngines() {
		ask(func() []any { list, data, c := impl.StoredState(d); return []any{list, data, c} })
	}
	for _, n := range askedStatements() {
		ask(func() []any { names, c := impl.TablesRead(n); return []any{names, c} })
	}
	return calls
}

func TestWhatEnginesAreHandedStays(t *testing.T) {
	for _, list := range slices.Concat(someCalls(), otherCalls()) {
		for _, sectors := range []int{3, 4, 30, manySectors} {
			before := behindAll(list)
			impl.EngineRun(sectors, list)
			impl.SerialRun(sectors, list)
			if behindAll(list) != before {
				t.Fatal("calls were changed\n", shownCalls(list, nil))
			}
		}
	}
	for _, d := range disksOfEngines() {
		before := behindAll(d)
		impl.StoredState(d)
		if behindAll(d) != before {
			t.Fatal("a disk was changed")
		}
	}
	for _, n := range askedStatements() {
		before := behindAll(n)
		impl.TablesRead(n)
		if behindAll(n) != before {
			t.Fatal("a statement was changed", n)
		}
	}
}

func TestEnginesAreNewMemory(t *testing.T) {
	for _, list := range someCalls() {
		for length := range len(list) + 1 {
			given := list[:length]
			e, replies, code := impl.EngineRun(manySectors, given)
			if code != impl.OK {
				t.Fatal("EngineRun", impl.CodeWord(code))
			}
			wantOwnMemory(t, "EngineRun", []any{e, replies}, given)
		}
		serial, _ := impl.SerialRun(manySectors, list)
		wantOwnMemory(t, "SerialRun", serial, list)
	}
	first, _ := impl.NewEngine(9)
	second, _ := impl.NewEngine(9)
	wantOwnMemory(t, "NewEngine", first, second)
	for _, d := range disksOfEngines() {
		list, data, _ := impl.StoredState(d)
		wantOwnMemory(t, "StoredState", []any{list, data}, d)
	}
	for _, n := range askedStatements() {
		names, _ := impl.TablesRead(n)
		wantOwnMemory(t, "TablesRead", names, n)
	}
}

// Rules and guards that are handed in twice, and lists of tables, of which calls share memory.
func TestCallsThatShareMemory(t *testing.T) {
	one, step := rule("r on cases insert 1 when n > 1 and n < 9 set n = n + 1 into notes (id, status)"), guard("cases", 1, ">a", "a>b")
	list := callsOf("create cases", "create notes")
	for range 4 {
		list = append(list, impl.Call{Kind: impl.EnRule, Rule: one}, impl.Call{Kind: impl.EnGuard, Guard: step})
	}
	x := ruledTables()[1]
	for range 3 {
		list = append(list, impl.Call{Kind: impl.EnCatalog, Catalog: create(x)})
		x.Name += "x"
	}
	list = append(list, callsOf("begin 0", "begin 1", "backup")...)
	e, replies := wantEngine(t, manySectors, list)
	if len(e.Rules) != 4 || len(e.Guards) != 4 || len(e.Tables) != 5 {
		t.Fatal(shownCalls(list, replies))
	}
	wantOwnMemory(t, "EngineRun", []any{e, replies}, list)
}

// What became of arguments and answers is nothing to other answers, nor to later calls.
func TestEnginesKeepNothing(t *testing.T) {
	alike, lists := someCalls(), someCalls()
	for i, list := range lists {
		e, replies, _ := impl.EngineRun(manySectors, list)
		serial, _ := impl.SerialRun(manySectors, list)
		was, told := cloneEngine(e), behindAll(replies)
		scribbleAll(list)
		scribbleAll(serial)
		if !sameEngine(e, was) || behindAll(replies) != told {
			t.Fatal("an engine hangs on what became of its calls")
		}
		scribbleAll([]any{e, replies})
		again, same, _ := impl.EngineRun(manySectors, alike[i])
		if !sameEngine(again, was) || behindAll(same) != told {
			t.Fatal("an engine hangs on what became of the one ahead")
		}
	}
	d := disksOfEngines()
	for i, other := range disksOfEngines() {
		list, data, code := impl.StoredState(d[i])
		tables, rows := cloneTables(list), cloneData(data)
		scribbleAll(d[i])
		if !sameTables(list, tables) || !sameData(data, rows) {
			t.Fatal("what is stored hangs on what became of the disk")
		}
		scribbleAll([]any{list, data})
		list, data, same := impl.StoredState(other)
		if !sameTables(list, tables) || !sameData(data, rows) || same != code {
			t.Fatal("what is stored hangs on what became of the answer ahead")
		}
	}
}
