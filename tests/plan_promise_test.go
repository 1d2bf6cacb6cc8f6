package tests

import (
	"fmt"
	"slices"
	"testing"

	"loop.example/g00208/impl"
)

// wantAsWithout says that a query answers the same by its plan as without one, looking at no more rows than there are; it tells how many.
func wantAsWithout(t *testing.T, n impl.Tree, list []impl.Table, data []impl.Data, want impl.Answer, wanted int) int {
	t.Helper()
	got, looked, code := impl.RunPlan(n, list, data)
	wantRows(t, "RunPlan "+drawn(n), got.Rows, code, want.Rows, wanted)
	if !slices.Equal(got.Fields, want.Fields) {
		t.Errorf("RunPlan %.600s: fields %v, want %v", drawn(n), got.Fields, want.Fields)
	}
	most := 0
	for _, x := range data {
		if parts := partsOf(n, 'T'); len(parts) > 0 && x.Name == parts[0].Name {
			most = len(x.Rows)
		}
	}
	if looked < 0 || looked > most || code != impl.OK && looked > 0 {
		t.Errorf("RunPlan %.600s looks at %d of %d rows, %s", drawn(n), looked, most, impl.CodeWord(code))
	}
	if p, told := impl.PlanSql(n, list); told == impl.OK && code == impl.OK {
		if places, fault := impl.PlanRows(p, list, data); len(places) != looked || fault != impl.OK {
			t.Errorf("RunPlan %.600s looks at %d rows, its plan finds %v", drawn(n), looked, places)
		}
	}
	return looked
}

// The same query by its plan and without one, with no index, with one, with several: the same answer, the same fault.
func TestPlansChangeNoAnswer(t *testing.T) {
	d := &dice{state: 440}
	count, fewer, some := map[int]int{}, 0, 0
	for i := range 4000 {
		bare := withoutIndexes(plannedTables())
		if i%2 == 0 {
			bare = withoutIndexes(typedTables())
		}
		n := rolledPlanned(d, bare, []int{0, 0, 0, 40}[i%4])
		data := rolledData(d, bare, []int{4, 12, 12, 120}[d.below(4)])
		if d.below(60) == 0 {
			data[d.below(len(data))].Name = "other"
		}
		want, code := queryByWords(n, bare, data)
		wantAnswer(t, n, bare, data, want, code)
		whole := wantAsWithout(t, n, bare, data, want, code)
		one := cloneTables(bare)
		for k, x := range one {
			one[k].Indexes = []impl.Index{rolledIndex(d, "x", len(x.Columns))}
		}
		for _, list := range [][]impl.Table{one, rolledIndexed(d, bare), rolledIndexed(d, bare)} {
			wantAnswer(t, n, list, data, want, code)
			if wantAsWithout(t, n, list, data, want, code) < whole {
				fewer++
			}
		}
		count[code]++
		if len(want.Rows) > 1 && whole > len(want.Rows) {
			some++
		}
		if t.Failed() {
			t.Fatal("and no more are asked")
		}
	}
	for _, code := range []int{impl.OK, impl.ErrBad, impl.ErrName, impl.ErrType, impl.ErrCount, impl.ErrMany, impl.ErrZero, impl.ErrRange} {
		if count[code] < 10 {
			t.Error("few of", impl.CodeWord(code), count)
		}
	}
	if fewer < 300 || some < 100 {
		t.Error("few plans by an index", fewer, "few answers of several rows", some)
	}
}

// Rolled queries with all that they may have, by the words.
func TestRolledRuns(t *testing.T) {
	d := &dice{state: 445}
	for i := range 2000 {
		list := rolledIndexed(d, plannedTables())
		n := rolledPlanned(d, list, []int{0, 0, 30}[i%3])
		data := rolledData(d, list, 14)
		want, looked, code := runByWords(n, list, data)
		wantRun(t, n, list, data, want, looked, code)
		if t.Failed() {
			t.Fatal("and no more are asked")
		}
	}
}

// Each row of which the where is true is one that the plan finds, whatever it is: no other way is left to it.
func TestPlansFindAllRows(t *testing.T) {
	d := &dice{state: 450}
	found, left := 0, 0
	for range 3000 {
		list := rolledIndexed(d, typedTables())
		x := list[d.below(len(list))]
		var scope []impl.Field
		for _, c := range x.Columns {
			scope = append(scope, impl.Field{Of: x.Name, Name: c.Name, Type: c.Type})
		}
		r := &roller{dice: dice{state: uint64(d.below(1 << 30))}, scope: scope}
		e := r.bounded()
		n := query(item(lit(num(1))), from(x.Name), where(e))
		p, code := impl.PlanSql(n, list)
		if code != impl.OK {
			t.Fatal(drawn(n), code)
		}
		data := rolledData(d, list, 20)
		places, code := impl.PlanRows(p, list, data)
		if code != impl.OK || !slices.IsSorted(places) {
			t.Fatal(shownPlan(p), places, code)
		}
		for _, one := range data {
			for i, line := range one.Rows {
				if one.Name != x.Name {
					continue
				}
				v, fault := impl.EvalRow(e, scope, line)
				switch has := slices.Contains(places, i); {
				case fault != impl.OK && !has:
					t.Fatalf("%s passes over a row with a fault: %v", drawn(e), line)
				case v == flag(1) && !has:
					t.Fatalf("%s passes over a row of which it is true: %v, plan %s", drawn(e), line, shownPlan(p))
				case has && p.Score > 0:
					found++
				case !has:
					left++
				}
			}
		}
	}
	if found < 1000 || left < 1000 {
		t.Error("few rows found", found, "or left", left)
	}
}

// Every value of a column against every literal, with each sign and on either side: just the rows that may fit are found.
func TestPlansOfEveryValue(t *testing.T) {
	for kind := impl.VaBool; kind <= impl.VaBytes; kind++ {
		var values []impl.Value
		for _, v := range risingValues() {
			if v.Kind == kind {
				values = append(values, v)
			}
		}
		columns := []impl.Column{{Name: "a", Type: kind}, {Name: "b", Type: impl.VaInt}, {Name: "c", Type: kind, Null: true}}
		list := []impl.Table{tableOf("t", columns, 2, index("byc", 2, 1))}
		var rows [][]impl.Value
		for i, v := range values {
			for k := range 2 {
				rows = append(rows, row(v, num(k), values[len(values)-1-i]))
			}
			rows = append(rows, row(v, num(2), impl.Value{}))
		}
		data := []impl.Data{{Name: "t", Rows: rows}}
		for _, v := range values {
			if v.Kind == impl.VaInt && (v.N < 0 || v.N > 999999999999999999) {
				continue
			}
			for _, sign := range []string{"=", "<>", "<", "<=", ">", ">="} {
				for _, column := range []string{"a", "c"} {
					for _, e := range []impl.Tree{pair(field(column), sign, lit(v)), pair(lit(v), sign, field(column))} {
						n := query(item(field("a")), item(field("b")), from("t"), where(e))
						want, wanted := impl.Query(n, list, data)
						looked := wantAsWithout(t, n, list, data, want, wanted)
						nulls := 0
						if held, turned, _ := heldByWords(e); held.Name == "c" && (turned == "<" || turned == "<=") {
							nulls = len(values) // these are before all values
						}
						if sign != "<>" && looked != len(want.Rows)+nulls {
							t.Errorf("%s looks at %d rows for %d", drawn(e), looked, len(want.Rows))
						}
					}
				}
			}
		}
	}
}

// To ask for one thing by a plan, then for the other, is to ask for both, in whichever order.
func TestBothOfTwoThingsByPlans(t *testing.T) {
	d := &dice{state: 455}
	some := 0
	for range 1500 {
		list := rolledIndexed(d, plannedTables())
		data := rolledData(d, list, 16)
		x := list[d.below(len(list))]
		scope, _, _ := scopeByWords(list, query(item(lit(num(1))), from(x.Name)))
		r := &roller{dice: dice{state: uint64(d.below(1 << 30))}, scope: scope}
		a, b := r.bounding(), r.bounding()
		var items []impl.Tree
		for _, c := range x.Columns {
			items = append(items, item(field(c.Name)))
		}
		ask := func(e impl.Tree) [][]impl.Value {
			answer, _, code := impl.RunPlan(query(slices.Concat(items, []impl.Tree{from(x.Name), where(e)})...), list, data)
			if code != impl.OK {
				t.Fatal(drawn(e), code)
			}
			return answer.Rows
		}
		want := inTurn(t, scope, ask(a), b)
		for what, got := range map[string][][]impl.Value{"a and b": ask(pair(a, "and", b)), "b and a": ask(pair(b, "and", a)), "b, then a": inTurn(t, scope, ask(b), a)} {
			wantRows(t, fmt.Sprint(drawn(a), drawn(b), what), got, impl.OK, want, impl.OK)
		}
		if len(want) > 0 {
			some++
		}
	}
	if some < 150 {
		t.Error("few that leave some rows", some)
	}
}
