package tests

import (
	"slices"
	"strings"
	"testing"

	"loop.example/g00208/impl"
)

// cases are executed over ruledData; rules and the changes that are wanted stand with ` | ` between.
type cases []struct {
	s, rules, want, fired string
	fuel, code            int
}

func split(words string) []string {
	if words == "" {
		return nil
	}
	return strings.Split(words, " | ")
}

func try(s, words string, fuel int, guards ...impl.Guard) tried {
	return tried{n: parsed(s), list: ruledTables(), data: ruledData(), rules: rules(split(words)...), guards: guards, fuel: fuel}
}

func wantCases(t *testing.T, list cases, guards ...impl.Guard) {
	t.Helper()
	for _, c := range list {
		wantTried(t, try(c.s, c.rules, c.fuel, guards...), changeList(split(c.want)...), c.fired, c.code)
	}
}

func TestStatementsWithoutRules(t *testing.T) {
	others := "a on marks insert 1 when true into marks (mark, word, other) | b on cases insert 1 when true | c on notes update 1 when true | d on log delete 1 when true | e on cases delete 1 when n is null | f on cases update 1 when null set n = 1 / 0 into notes (1, 'x')"
	for _, fuel := range []int{0, 1, 50} {
		for _, ruled := range []string{"", others} { // none of these fires
			wantCases(t, cases{
				{"insert into notes values (2, 'two')", ruled, "insert notes: 2, 'two'", "", fuel, 0}, {"delete from cases where n = 7", ruled, "delete cases: 5, 'open', 7, null", "", fuel, 0}, {"delete from notes", ruled, "delete notes: 1, 'one' | delete notes: 10, null", "", fuel, 0}, {"update cases set n = n + 1 where flag is not null", ruled, "update cases: 1, 'open', 5, true > 1, 'open', 6, true | update cases: 2, 'done', 0, false > 2, 'done', 1, false", "", fuel, 0}, {"update cases set n = 5", ruled, "update cases: 2, 'done', 0, false > 2, 'done', 5, false | update cases: 3, null, null, null > 3, null, 5, null | update cases: 5, 'open', 7, null > 5, 'open', 5, null", "", fuel, 0}, {"update cases set n = n, flag = flag", ruled, "", "", fuel, 0}, {"delete from cases where null", ruled, "", "", fuel, 0}, {"insert into cases values (1, 'new', 1, true)", ruled, "", "", fuel, impl.ErrTwice},
			})
		}
	}
}

func TestRulesThatFire(t *testing.T) {
	wantCases(t, cases{
		{"insert into cases values (7, 'open', null, null)", "a on cases insert 1 when true set n = 0", "insert cases: 7, 'open', null, null | update cases: 7, 'open', null, null > 7, 'open', 0, null", "a", 1, 0},
		{"insert into cases values (7, 'open', null, null)", "a on cases insert 1 when false set n = 0", "insert cases: 7, 'open', null, null", "", 0, 0}, {"insert into cases values (7, 'open', null, null)", "a on cases insert 1 when null set n = 0", "insert cases: 7, 'open', null, null", "", 0, 0}, {"insert into cases values (7, 'open', null, null)", "a on cases insert 1 when n > 3 set n = 0", "insert cases: 7, 'open', null, null", "", 0, 0}, {"insert into cases values (7, 'open', null, null)", "a on cases insert 1 when true", "insert cases: 7, 'open', null, null", "a", 1, 0},
		{"insert into cases values (7, 'open', 1, null)", "a on cases insert 1 when true into notes (id * 2, status)", "insert cases: 7, 'open', 1, null | insert notes: 14, 'open'", "a", 1, 0}, {"insert into cases values (7, 'open', 1, null)", "a on cases insert 1 when true set status = 'done', n = n + 1 into notes (n, status)", "", "", 1, impl.ErrTwice}, {"insert into cases values (7, 'open', 2, null)", "a on cases insert 1 when true set status = 'done', n = n + 1 into notes (n, status)", "insert cases: 7, 'open', 2, null | update cases: 7, 'open', 2, null > 7, 'done', 3, null | insert notes: 2, 'open'", "a", 1, 0}, {"insert into cases values (7, 'open', 2, null)", "a on cases insert 1 when true set n = n into notes (n, status)", "insert cases: 7, 'open', 2, null | insert notes: 2, 'open'", "a", 1, 0},
		{"delete from cases where flag", "a on cases delete 1 when status = 'open' into notes (id * 7, 'gone ')", "delete cases: 1, 'open', 5, true | insert notes: 7, 'gone '", "a", 1, 0}, {"delete from cases where status = 'open'", "a on cases delete 1 when n > 0 into log (id, n, status, n)", "delete cases: 1, 'open', 5, true | delete cases: 5, 'open', 7, null | insert log: 1, 5, 'open', 5 | insert log: 5, 7, 'open', 7", "a a", 2, 0}, {"delete from cases where status = 'open'", "a on cases delete 1 when true | b on cases delete 0 when flag", "delete cases: 1, 'open', 5, true | delete cases: 5, 'open', 7, null", "b a a", 3, 0}, {"delete from cases where id = 1", "a on cases delete 1 when true into cases (id, 'back', n, flag) | b on cases insert 1 when true set n = n + 1", "delete cases: 1, 'open', 5, true | insert cases: 1, 'back', 5, true | update cases: 1, 'back', 5, true > 1, 'back', 6, true", "a b", 2, 0},
		{"update cases set n = 1 where id = 1", "a on cases update 1 when n < 4 set n = n + 1", "update cases: 1, 'open', 5, true > 1, 'open', 1, true | update cases: 1, 'open', 1, true > 1, 'open', 2, true | update cases: 1, 'open', 2, true > 1, 'open', 3, true | update cases: 1, 'open', 3, true > 1, 'open', 4, true", "a a a", 3, 0}, {"update cases set n = 4 where id = 1", "a on cases update 1 when n < 4 set n = n + 1", "update cases: 1, 'open', 5, true > 1, 'open', 4, true", "", 0, 0}, {"update cases set n = 5 where id = 1", "a on cases update 1 when true set n = 0", "", "", 0, 0}, {"update cases set n = 3 where id < 3", "a on cases update 1 when n = 3 into notes (id + 20, status)", "update cases: 1, 'open', 5, true > 1, 'open', 3, true | update cases: 2, 'done', 0, false > 2, 'done', 3, false | insert notes: 21, 'open' | insert notes: 22, 'done'", "a a", 2, 0}, {"update log set n = n where false", "a on log update 1 when true set n = 0", "", "", 0, 0},
		{"insert into notes values (2, 'x')", "a on notes insert 1 when id < 5 into notes (id + 1, what)", "insert notes: 2, 'x' | insert notes: 3, 'x' | insert notes: 4, 'x' | insert notes: 5, 'x'", "a a a", 3, 0}, {"insert into notes values (2, 'x')", "a on notes insert 1 when what = 'x' into marks (x'01', what, null) | b on marks insert 1 when true into log (4, 4, word, 4) | c on log insert 1 when n = 4 set n = 5 | d on log update 1 when true into notes (n, what)", "", "", 5, impl.ErrTwice},
		{"insert into notes values (2, 'x')", "a on notes insert 1 when id = 2 into marks (x'01', what, null) | b on marks insert 1 when true into log (4, 4, word, 4) | c on log insert 1 when n = 4 set n = 5 | d on log update 1 when true into notes (n, what)", "insert notes: 2, 'x' | insert marks: x'01', 'x', null | insert log: 4, 4, 'x', 4 | update log: 4, 4, 'x', 4 > 4, 4, 'x', 5 | insert notes: 5, 'x'", "a b c d", 4, 0},
		{"insert into notes values (2, 'x')", "a on notes insert 1 when notes.what = 'x' set what = null | b on notes update 1 when what is null into notes (id + 1, 'y')", "insert notes: 2, 'x' | update notes: 2, 'x' > 2, null | insert notes: 3, 'y'", "a b", 2, 0},
	})
}

// Lesser priorities fire first, then lesser names, then as they stand; all look at the row as the change left it.
func TestTheOrderOfRules(t *testing.T) {
	s := "insert into cases values (7, 'open', 2, null)"
	made := "insert cases: 7, 'open', 2, null"
	wantCases(t, cases{
		{s, "b on cases insert 1 when true set n = n + 1 | a on cases insert 1 when true set n = n * 10", made + " | update cases: 7, 'open', 2, null > 7, 'open', 20, null | update cases: 7, 'open', 20, null > 7, 'open', 3, null", "a b", 50, 0}, {s, "b on cases insert 1 when true set n = n + 1 | a on cases insert 2 when true set n = n * 10", made + " | update cases: 7, 'open', 2, null > 7, 'open', 3, null | update cases: 7, 'open', 3, null > 7, 'open', 20, null", "b a", 50, 0}, {s, "a on cases insert 0 when true set n = n + 1 | a on cases insert 0 when true set n = n * 10", made + " | update cases: 7, 'open', 2, null > 7, 'open', 3, null | update cases: 7, 'open', 3, null > 7, 'open', 20, null", "a a", 50, 0}, {s, "a on cases insert 0 when true set n = n * 10 | a on cases insert 0 when true set n = n + 1", made + " | update cases: 7, 'open', 2, null > 7, 'open', 20, null | update cases: 7, 'open', 20, null > 7, 'open', 3, null", "a a", 50, 0},
		{s, "c on cases insert 9 when true into notes (3, 'c') | b on cases insert 10 when true into notes (4, 'b') | a on cases insert 100 when true into notes (5, 'a')", made + " | insert notes: 3, 'c' | insert notes: 4, 'b' | insert notes: 5, 'a'", "c b a", 50, 0}, {s, "a on cases insert 5 when true into notes (5, 'a') | B on cases insert 5 when true into notes (4, 'B') | _ on cases insert 5 when true into notes (3, '_') | aa on cases insert 5 when true into notes (6, 'aa')", made + " | insert notes: 4, 'B' | insert notes: 3, '_' | insert notes: 5, 'a' | insert notes: 6, 'aa'", "B _ a aa", 50, 0},
		{s, "a on cases insert 1 when true set status = 'x' into notes (3, status) | b on cases insert 2 when status = 'open' set flag = true into notes (4, status)", made + " | update cases: 7, 'open', 2, null > 7, 'x', 2, null | insert notes: 3, 'open' | update cases: 7, 'x', 2, null > 7, 'x', 2, true | insert notes: 4, 'open'", "a b", 2, 0},
		{"update cases set n = 1 where id < 3", "b on cases update 1 when id = 1 into notes (3, 'b') | a on cases update 2 when true set flag = null", "", "", 50, impl.ErrTwice},
	})
}

// What is due later is made over what was made by then: only values that it wants to change are changed.
func TestWhatARowIsByThen(t *testing.T) {
	s := "insert into cases values (7, 'open', 2, null)"
	made := "insert cases: 7, 'open', 2, null"
	wantCases(t, cases{
		{s, "a on cases insert 1 when true set n = 3 | b on cases insert 2 when true set status = 'x'", made + " | update cases: 7, 'open', 2, null > 7, 'open', 3, null | update cases: 7, 'open', 3, null > 7, 'x', 3, null", "a b", 50, 0}, {s, "a on cases insert 1 when true set n = 3 | b on cases insert 2 when true set n = 3", made + " | update cases: 7, 'open', 2, null > 7, 'open', 3, null", "a b", 50, 0}, {s, "a on cases insert 1 when true set n = 3 | b on cases insert 2 when true set n = n", made + " | update cases: 7, 'open', 2, null > 7, 'open', 3, null", "a b", 50, 0}, {s, "a on cases insert 1 when true set n = 3 | b on cases insert 2 when true set n = 2, status = 'x'", made + " | update cases: 7, 'open', 2, null > 7, 'open', 3, null | update cases: 7, 'open', 3, null > 7, 'x', 3, null", "a b", 50, 0}, {s, "a on cases insert 1 when true set n = null | b on cases insert 2 when true set n = 4", made + " | update cases: 7, 'open', 2, null > 7, 'open', null, null | update cases: 7, 'open', null, null > 7, 'open', 4, null", "a b", 50, 0},
		{s, "a on cases insert 1 when true set n = n + 1 | b on cases insert 2 when true set n = n + 1", made + " | update cases: 7, 'open', 2, null > 7, 'open', 3, null", "a b", 50, 0}, {s, "a on cases insert 1 when true set n = n + 1 | b on cases update 2 when n < 5 set n = n + 1, flag = true | c on cases update 3 when n < 5 set status = 'x'", made + " | update cases: 7, 'open', 2, null > 7, 'open', 3, null | update cases: 7, 'open', 3, null > 7, 'open', 4, true | update cases: 7, 'open', 4, true > 7, 'x', 4, true | update cases: 7, 'x', 4, true > 7, 'x', 5, true", "a b c b c b c", 50, 0},
		{"update cases set n = 1 where id = 1", "a on cases update 1 when n = 1 set n = 2, status = 'a' | b on cases update 1 when n = 1 set n = 1, flag = false", "update cases: 1, 'open', 5, true > 1, 'open', 1, true | update cases: 1, 'open', 1, true > 1, 'a', 2, true | update cases: 1, 'a', 2, true > 1, 'a', 2, false", "a b", 50, 0}, {"update cases set n = 1 where id = 1", "a on cases update 1 when n = 1 set n = 2 | b on cases update 2 when n = 1 set n = 3 | c on cases update 3 when n = 2 set n = 1", "", "", 50, impl.ErrFuel},
	})
}

// All that a statement changes is ahead of all that rules make due, and that of one rule's change ahead of that of the next one.
func TestTheOrderOfWhatIsDue(t *testing.T) {
	wantCases(t, cases{
		{"delete from cases where id < 4", "a on cases delete 2 when true into notes (id + 20, 'a') | b on cases delete 1 when true into notes (id + 30, 'b')", "delete cases: 1, 'open', 5, true | delete cases: 2, 'done', 0, false | delete cases: 3, null, null, null | insert notes: 31, 'b' | insert notes: 21, 'a' | insert notes: 32, 'b' | insert notes: 22, 'a' | insert notes: 33, 'b' | insert notes: 23, 'a'", "b a b a b a", 6, 0}, {"update cases set flag = true where id < 3 and n >= 0", "a on cases update 1 when n < 2 set n = n + 1 into notes (n + 20, 'a') | b on notes insert 1 when id < 40 into notes (id + 20, 'b')", "update cases: 2, 'done', 0, false > 2, 'done', 0, true | update cases: 2, 'done', 0, true > 2, 'done', 1, true | insert notes: 20, 'a' | update cases: 2, 'done', 1, true > 2, 'done', 2, true | insert notes: 21, 'a' | insert notes: 40, 'b' | insert notes: 41, 'b'", "a a b b", 4, 0},
		{"insert into notes values (2, 'x')", "a on notes insert 1 when id < 10 set what = 'y' into notes (id * 10 + 1, 'a') | b on notes insert 2 when id < 10 set what = 'z' into notes (id * 10 + 2, 'b') | c on notes update 1 when what = 'y' into notes (99, 'c')", "insert notes: 2, 'x' | update notes: 2, 'x' > 2, 'y' | insert notes: 21, 'a' | update notes: 2, 'y' > 2, 'z' | insert notes: 22, 'b' | insert notes: 99, 'c'", "a b c", 3, 0},
	})
}

func TestFuel(t *testing.T) {
	for fuel := range impl.MaxFuel + 1 {
		for first := range 9 {
			x := try("delete from notes", "a on notes insert 1 when id < 20 into notes (id + 1, what)", fuel)
			x.n = insertInto("notes", lit(num(10-first)), lit(text("x")))
			x.data[3].Rows = nil
			_, o, code := wantExecuted(t, x)
			if needs := 10 + first; fuel < needs && code != impl.ErrFuel || fuel >= needs && (code != impl.OK || len(o.Fired) != needs) {
				t.Error(fuel, first, o.Fired, impl.CodeWord(code))
			}
		}
	}
	wantCases(t, cases{
		{"insert into notes values (2, 'x')", "a on notes insert 1 when true", "insert notes: 2, 'x'", "a", 1, 0}, {"insert into notes values (2, 'x')", "a on notes insert 1 when true", "", "", 0, impl.ErrFuel}, {"insert into notes values (2, 'x')", "a on notes insert 1 when true | b on notes insert 1 when true", "insert notes: 2, 'x'", "a b", 2, 0}, {"insert into notes values (2, 'x')", "a on notes insert 1 when true | b on notes insert 1 when true", "", "", 1, impl.ErrFuel}, {"insert into notes values (2, 'x')", "a on notes insert 1 when true | b on notes insert 1 when false", "insert notes: 2, 'x'", "a", 1, 0}, {"update notes set what = 'x'", "a on notes update 1 when true", "update notes: 1, 'one' > 1, 'x' | update notes: 10, null > 10, 'x'", "a a", 2, 0}, {"update notes set what = 'x'", "a on notes update 1 when true", "", "", 1, impl.ErrFuel}, {"update notes set what = 'x'", "a on notes update 1 when id = 10", "update notes: 1, 'one' > 1, 'x' | update notes: 10, null > 10, 'x'", "a", 1, 0}, {"update notes set what = 'x'", "a on notes update 1 when true set what = 'y' | b on notes update 1 when what = 'z'", "", "", 3, impl.ErrFuel}, {"update notes set what = 'x'", "a on notes update 1 when what = 'x' set what = 'y'", "update notes: 1, 'one' > 1, 'x' | update notes: 10, null > 10, 'x' | update notes: 1, 'x' > 1, 'y' | update notes: 10, 'x' > 10, 'y'", "a a", 2, 0}, {"update cases set n = 1 where id = 1", "a on cases update 1 when true set n = n + 1", "", "", 50, impl.ErrFuel},
	})
	for fuel, code := range map[int]int{least: impl.ErrRange, -1: impl.ErrRange, 0: impl.OK, 50: impl.OK, 51: impl.ErrRange, 256: impl.ErrRange, greatest: impl.ErrRange} {
		x := try("insert into notes values (2, 'x')", "", fuel)
		data, o, got := x.do()
		if got != code || code != impl.OK && len(data)+len(o.Changes)+len(o.Fired) != 0 {
			t.Error(fuel, data, o, impl.CodeWord(got))
		}
		wantExecuted(t, x)
	}
}

// A fault leaves nothing of what was done ahead of it, wherever it is found.
func TestFaultsWhileExecuting(t *testing.T) {
	s := "insert into cases values (7, 'open', 2, null)"
	big := "999999999999999999 * 10"
	for _, c := range []struct {
		s, rules string
		code     int
	}{
		{"delete from cases where 1 / n = 1", "", impl.ErrZero}, {"update cases set n = " + big, "", impl.ErrRange}, {"insert into notes values (null, 'x')", "", impl.ErrNull}, {"insert into notes values (1 / 0, 'x')", "", impl.ErrZero}, {"update log set n = null", "", impl.ErrNull}, {"insert into notes values (1, 'x')", "", impl.ErrTwice},
		{s, "a on cases insert 1 when 1 / 0 = 1", impl.ErrZero}, {s, "a on cases insert 1 when n * " + big + " > 0", impl.ErrRange}, {s, "a on cases insert 1 when false and 1 / 0 = 1", impl.ErrZero}, {s, "a on cases insert 1 when true set n = 1 / 0", impl.ErrZero}, {s, "a on cases insert 1 when true set n = n * " + big, impl.ErrRange}, {s, "a on cases insert 1 when true set n = " + big + ", flag = 1 / 0 = 1", impl.ErrRange}, {s, "a on cases insert 1 when true set flag = 1 / 0 = 1, n = " + big, impl.ErrZero}, {s, "a on cases insert 1 when true into notes (1 / 0, status)", impl.ErrZero}, {s, "a on cases insert 1 when true into notes (null, status)", impl.ErrNull}, {s, "a on cases insert 1 when true into log (1, 1, null, flag)", impl.ErrBad}, {s, "a on cases insert 1 when true into log (1, 1, null, null)", impl.ErrNull}, {s, "a on cases insert 1 when true into notes (1, status)", impl.ErrTwice}, {s, "a on cases insert 1 when true into cases (id, status, n, flag)", impl.ErrTwice},
		{s, "a on cases insert 1 when true into notes (null, null) | b on cases insert 2 when 1 / 0 = 1", impl.ErrNull}, {s, "a on cases insert 1 when true into notes (1, null) | b on cases insert 2 when 1 / 0 = 1", impl.ErrZero}, {s, "a on cases insert 1 when true set n = 1 / 0 into notes (null, null)", impl.ErrZero}, {s, "a on cases insert 1 when true set n = 1 into notes (null, status) | b on cases update 1 when 1 / 0 = 1", impl.ErrNull}, {s, "a on cases insert 1 when true set n = 1 into notes (1, null) | b on cases update 1 when 1 / 0 = 1", impl.ErrZero}, {s, "a on cases insert 1 when true into notes (1, null) | b on cases insert 1 when true set n = 1 | c on cases update 1 when 1 / 0 = 1", impl.ErrTwice},
		{"insert into log values (2, 2, null, 1)", "a on log insert 1 when true set n = null", impl.ErrNull}, {"insert into log values (2, 2, null, 1)", "a on log insert 1 when true set n = null into notes (1 / 0, null)", impl.ErrNull}, {"insert into log values (2, 2, null, 1)", "a on log insert 1 when true set n = null, what = 'a' into notes (1, null)", impl.ErrNull}, {"update log set n = 7", "a on log update 1 when at = 3 into notes (1 / 0, null)", impl.ErrZero}, {"delete from log", "a on log delete 1 when at = 3 and 1 / 0 = 1", impl.ErrZero}, {"delete from log", "a on log delete 1 when at = 3 into notes (1, 'x')", impl.ErrTwice}, {"delete from log", "a on log delete 1 when true into notes (7, 'x')", impl.ErrTwice}, {"insert into cases values (1, 'x', 1, null)", "a on cases insert 1 when 1 / 0 = 1", impl.ErrTwice},
	} {
		x := try(c.s, c.rules, 50)
		data, o, code := x.do()
		if code != c.code || len(o.Changes)+len(o.Fired) != 0 {
			t.Errorf("%s%s, want %s: %v", x.shown(), impl.CodeWord(code), impl.CodeWord(c.code), o)
		}
		if code != impl.ErrBad && !sameData(data, ruledData()) || code == impl.ErrBad && len(data) != 0 {
			t.Errorf("%sthe data are %s", x.shown(), shownData(data))
		}
		wantExecuted(t, x)
	}
}

func TestGuardedStatements(t *testing.T) {
	ways := guard("cases", 1, ">open", "open>busy", "busy>done", "done>")
	count := "a on cases update 1 when status = 'busy' set status = 'done'"
	wantCases(t, cases{
		{"insert into cases values (7, 'open', 2, null)", "", "insert cases: 7, 'open', 2, null", "", 9, 0}, {"insert into cases values (7, 'busy', 2, null)", "", "", "", 9, impl.ErrGuard}, {"insert into cases values (7, null, 2, null)", "", "", "", 9, impl.ErrGuard}, {"insert into cases values (7, '', 2, null)", "", "", "", 9, impl.ErrGuard}, {"insert into cases values (1, 'busy', 2, null)", "", "", "", 9, impl.ErrGuard}, {"insert into cases values (1, 'open', 2, null)", "", "", "", 9, impl.ErrTwice}, {"insert into notes values (7, 'busy')", "", "insert notes: 7, 'busy'", "", 9, 0},
		{"delete from cases", "", "delete cases: 1, 'open', 5, true | delete cases: 2, 'done', 0, false | delete cases: 3, null, null, null | delete cases: 5, 'open', 7, null", "", 9, 0}, {"update cases set n = 1 where id < 3", "", "update cases: 1, 'open', 5, true > 1, 'open', 1, true | update cases: 2, 'done', 0, false > 2, 'done', 1, false", "", 9, 0}, {"update cases set status = 'busy' where status = 'open'", "", "update cases: 1, 'open', 5, true > 1, 'busy', 5, true | update cases: 5, 'open', 7, null > 5, 'busy', 7, null", "", 9, 0}, {"update cases set status = 'busy'", "", "", "", 9, impl.ErrGuard}, {"update cases set status = 'done' where id = 1", "", "", "", 9, impl.ErrGuard}, {"update cases set status = null where id = 2", "", "update cases: 2, 'done', 0, false > 2, null, 0, false", "", 9, 0}, {"update cases set status = '' where id = 3", "", "update cases: 3, null, null, null > 3, '', null, null", "", 9, 0}, {"update cases set status = 'open' where id = 3", "", "update cases: 3, null, null, null > 3, 'open', null, null", "", 9, 0}, {"update cases set status = 'open'", "", "", "", 9, impl.ErrGuard}, {"update cases set status = status, n = 5 where id <> 2", "", "update cases: 3, null, null, null > 3, null, 5, null | update cases: 5, 'open', 7, null > 5, 'open', 5, null", "", 9, 0},
		{"update cases set status = 'busy' where id = 1", count, "update cases: 1, 'open', 5, true > 1, 'busy', 5, true | update cases: 1, 'busy', 5, true > 1, 'done', 5, true", "a", 9, 0}, {"update cases set n = 1 where id = 1", "a on cases update 1 when n = 1 set status = 'done'", "", "", 9, impl.ErrGuard}, {"update cases set n = 1 where id = 1", "a on cases update 1 when n = 1 set status = 'open'", "update cases: 1, 'open', 5, true > 1, 'open', 1, true", "a", 9, 0}, {"insert into cases values (7, 'open', 2, null)", "a on cases insert 1 when true set status = 'busy' | b on cases insert 2 when true set status = 'done'", "insert cases: 7, 'open', 2, null | update cases: 7, 'open', 2, null > 7, 'busy', 2, null | update cases: 7, 'busy', 2, null > 7, 'done', 2, null", "a b", 9, 0}, {"insert into cases values (7, 'open', 2, null)", "a on cases insert 2 when true set status = 'busy' | b on cases insert 1 when true set status = 'done'", "", "", 9, impl.ErrGuard}, {"insert into notes values (7, 'open')", "a on notes insert 1 when true into cases (id, what, null, null)", "insert notes: 7, 'open' | insert cases: 7, 'open', null, null", "a", 9, 0}, {"insert into notes values (7, 'busy')", "a on notes insert 1 when true into cases (id, what, null, null)", "", "", 9, impl.ErrGuard}, {"insert into notes values (1, 'busy')", "a on notes insert 1 when true into cases (id, what, null, null)", "", "", 9, impl.ErrTwice},
	}, ways)
	wantCases(t, cases{ // all of them let it be, or none is asked
		{"insert into cases values (7, 'open', 2, null)", "", "insert cases: 7, 'open', 2, null", "", 9, 0}, {"insert into cases values (7, 'busy', 2, null)", "", "", "", 9, impl.ErrGuard}, {"update cases set status = 'busy' where id = 1", "", "", "", 9, impl.ErrGuard}, {"update log set what = 'a' where at = 0", "", "", "", 9, impl.ErrGuard}, {"update log set what = 'a' where at = 3", "", "update log: 1, 3, null, 4 > 1, 3, 'a', 4", "", 9, 0},
	}, ways, guard("log", 2, ">a"), guard("marks", 1), guard("cases", 1, ">open", ">busy"))
	wantCases(t, cases{{"update cases set status = 'x' where id = 1", "", "", "", 9, impl.ErrGuard}, {"update cases set n = 0", "", "update cases: 1, 'open', 5, true > 1, 'open', 0, true | update cases: 3, null, null, null > 3, null, 0, null | update cases: 5, 'open', 7, null > 5, 'open', 0, null", "", 9, 0}}, guard("cases", 1))
}

// An update is held against a guard as it is by then, not as it was when it became due.
func TestGuardsLookAtWhatIsByThen(t *testing.T) {
	ways := guard("cases", 1, ">open", "open>busy", "open>done", "busy>done", "done>open")
	s := "insert into cases values (7, 'open', 2, null)"
	wantCases(t, cases{
		{s, "a on cases insert 1 when true set status = 'done' | b on cases insert 2 when true set status = 'busy'", "", "", 9, impl.ErrGuard}, {s, "a on cases insert 1 when true set status = 'done' | b on cases insert 2 when true set status = 'open', n = 3", "insert cases: 7, 'open', 2, null | update cases: 7, 'open', 2, null > 7, 'done', 2, null | update cases: 7, 'done', 2, null > 7, 'done', 3, null", "a b", 9, 0}, {s, "a on cases insert 1 when true set status = 'done' | b on cases insert 2 when true set status = 'done', n = 3", "insert cases: 7, 'open', 2, null | update cases: 7, 'open', 2, null > 7, 'done', 2, null | update cases: 7, 'done', 2, null > 7, 'done', 3, null", "a b", 9, 0},
	}, ways)
}

// A row that no more fits in is told behind a guard and a key that is there.
func TestFullTablesWhileExecuting(t *testing.T) {
	list := []impl.Table{table("a", "id int, what text null", 1), table("b", "id int, what text null", 1)}
	for size, code := range map[int]int{398: impl.OK, 399: impl.OK, 400: impl.ErrFull} {
		data := emptyData(list)
		data[0].Rows = manyRows(size, 2)
		x := tried{n: parsed("insert into a values (1000, null)"), list: list, data: data, fuel: 50}
		if _, _, got := wantExecuted(t, x); got != code {
			t.Error(size, impl.CodeWord(got))
		}
		x.guards = []impl.Guard{guard("a", 1)}
		if _, _, got := wantExecuted(t, x); got != impl.ErrGuard {
			t.Error(size, impl.CodeWord(got))
		}
		x.n, x.guards = parsed("insert into a values (7, null)"), nil
		if _, _, got := wantExecuted(t, x); got != impl.ErrTwice {
			t.Error(size, impl.CodeWord(got))
		}
		more := rule("more on cases insert 1 when true into notes (1, null)")
		more.Table, more.Into, more.Exprs[0] = "b", "a", pair(lit(num(1000)), "+", field("id"))
		x.n, x.rules = parsed("insert into b values (7, null)"), []impl.Rule{more}
		if _, _, got := wantExecuted(t, x); got != code {
			t.Error(size, impl.CodeWord(got))
		}
		more.Table, more.Event = "a", impl.EvDelete
		x.n, x.rules = parsed("delete from a where id = 7"), []impl.Rule{more}
		if _, o, got := wantExecuted(t, x); got != impl.OK || len(o.Changes) != 2 {
			t.Error(size, impl.CodeWord(got))
		}
		x.n, x.rules = parsed("update a set what = 'x'"), nil
		if _, o, got := wantExecuted(t, x); got != impl.OK || len(o.Changes) != size {
			t.Error(size, impl.CodeWord(got))
		}
		x.n = parsed("delete from a")
		if data, o, got := wantExecuted(t, x); got != impl.OK || len(o.Changes) != size || len(data[0].Rows) != 0 {
			t.Error(size, impl.CodeWord(got))
		}
	}
}

// Numbers at the ends of all ints.
func TestGreatNumbersWhileExecuting(t *testing.T) {
	list := []impl.Table{table("cases", "id int, n int null", 1)}
	data := []impl.Data{{Name: "cases", Rows: [][]impl.Value{{num(least), num(greatest)}, {num(greatest), num(least)}}}}
	for s, code := range map[string]int{"update cases set n = id": impl.ErrRange, "update cases set n = id where id > 0": impl.ErrRange, "update cases set n = 3": impl.ErrFuel, "delete from cases": impl.OK, "insert into cases values (0, 1)": impl.OK} {
		r := impl.Rule{Name: "r", Table: "cases", Event: impl.EvUpdate, When: lit(flag(1)), Sets: []impl.Setting{{Column: 1, Expr: parsedExpr("n + 1")}}}
		x := tried{n: parsed(s), list: list, data: data, rules: []impl.Rule{r}, fuel: 50}
		if _, _, got := wantExecuted(t, x); got != code {
			t.Error(s, impl.CodeWord(got))
		}
	}
}

// CheckSql's codes, then a query, data, rules and guards that are not right, then fuel: all of them without data.
func TestOrderOfCodesOfExecutions(t *testing.T) {
	wrong := ruledData()
	wrong[0].Rows[1][0] = num(1)
	many := slices.Repeat([]impl.Rule{rule("a on cases insert 1 when true")}, impl.MaxRules+1)
	badRule, badGuard := rule("a on cases insert 101 when true"), guard("cases", 0)
	guards := slices.Repeat([]impl.Guard{guard("cases", 1, ">open")}, impl.MaxGuards+1)
	check := func(x tried, code int) {
		t.Helper()
		data, o, got := x.do()
		if got != code || len(data)+len(o.Changes)+len(o.Fired) != 0 {
			t.Errorf("%s%s, want %s: %.200v %v", x.shown(), impl.CodeWord(got), impl.CodeWord(code), data, o)
		}
		wantExecuted(t, x)
	}
	bends := []func(*tried){
		func(x *tried) { x.data = wrong }, func(x *tried) { x.data = nil }, func(x *tried) { x.data = x.data[1:] }, func(x *tried) { x.data = make([]impl.Data, impl.MaxList) },
		func(x *tried) { x.rules = many }, func(x *tried) { x.rules = []impl.Rule{badRule} }, func(x *tried) { x.rules = append(slices.Repeat(many[:1], 7), badRule) }, func(x *tried) { x.rules = make([]impl.Rule, impl.MaxList) },
		func(x *tried) { x.guards = guards }, func(x *tried) { x.guards = []impl.Guard{badGuard} }, func(x *tried) { x.guards = append(slices.Repeat(guards[:1], 3), badGuard) }, func(x *tried) { x.guards = make([]impl.Guard, impl.MaxList) },
		func(x *tried) { x.fuel = 51 }, func(x *tried) { x.fuel = -1 },
	}
	long := []func(*tried){
		func(x *tried) { x.data = make([]impl.Data, impl.MaxList+1) }, func(x *tried) { x.rules = make([]impl.Rule, impl.MaxList+1) }, func(x *tried) { x.guards = make([]impl.Guard, impl.MaxList+1) }, func(x *tried) { x.list = manyTables(impl.MaxList + 1) },
	}
	for s, code := range map[string]int{"delete from none": impl.ErrName, "delete from cases where n": impl.ErrType, "insert into notes values (1)": impl.ErrCount, "update cases set id = 1": impl.ErrGuard, "update cases set n = 1, n = 2": impl.ErrTwice, "select none from cases": impl.ErrName, "select id from cases": impl.ErrBad} {
		check(try(s, "", 1), code)
		for i, bend := range bends {
			x := try(s, "", 1)
			bend(&x)
			check(x, code)
			bends[(i+5)%len(bends)](&x)
			check(x, code)
			for _, beyond := range long {
				y := x
				beyond(&y)
				check(y, impl.ErrLong)
			}
		}
	}
	for _, s := range []string{"delete from cases", "insert into notes values (null, 'x')", "update cases set n = 1 / 0", "insert into cases values (9, 'busy', 1, true)"} {
		for i, bend := range bends {
			x := try(s, "", 1)
			bend(&x)
			code := impl.ErrBad
			if i >= len(bends)-2 {
				code = impl.ErrRange
			}
			check(x, code)
			x.fuel = 51
			check(x, code)
			for _, beyond := range long {
				y := x
				beyond(&y)
				check(y, impl.ErrLong)
			}
		}
	}
	for at := range 8 { // whichever rule it is, of whatever table
		x := try("delete from marks where false", "", 1)
		x.rules = slices.Repeat([]impl.Rule{rule("a on cases insert 1 when true")}, 8)
		wantTried(t, x, nil, "", impl.OK)
		x.rules[at] = badRule
		check(x, impl.ErrBad)
	}
	for at := range 4 {
		x := try("delete from marks where false", "", 1)
		x.guards = slices.Repeat(guards[:1], 4)
		wantTried(t, x, nil, "", impl.OK)
		x.guards[at] = badGuard
		check(x, impl.ErrBad)
	}
	for _, n := range []impl.Tree{{}, {Kind: least, N: greatest}, field("id"), insertInto("cases")} {
		x := try("delete from cases", "", 51)
		x.n = n
		check(x, impl.ErrBad)
	}
	for _, list := range [][]impl.Table{wrongCatalogs()[0], manyTables(impl.MaxList), append(ruledTables(), ruledTables()[0])} {
		x := try("delete from cases", "", 51)
		x.list = list
		check(x, impl.ErrBad)
	}
}
