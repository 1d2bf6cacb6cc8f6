package tests

import (
	"fmt"
	"slices"
	"strings"
	"testing"

	"loop.example/g00208/impl"
)

// keyOf are a value's key bytes.
func keyOf(v impl.Value) string {
	b, code := impl.KeyBytes(row(v))
	if code != impl.OK {
		panic("no right value")
	}
	return string(b)
}

// behindOf are a value's key bytes and 255.
func behindOf(v impl.Value) string { return keyOf(v) + "\xff" }

// safeByWords is what SafeExpr is to answer.
func safeByWords(e impl.Tree) (bool, int) {
	if !exprRight(e) {
		return false, impl.ErrBad
	}
	for _, p := range nodesOf(&e) {
		word := kindWords[p.Kind] + " " + p.Name
		if strings.HasPrefix(word, "agg ") || slices.Contains([]string{"unary -", "binary +", "binary -", "binary *", "binary /", "binary %"}, word) {
			return false, impl.OK
		}
	}
	return true, impl.OK
}

// conjunctsByWords is what Conjuncts is to answer: the leftmost `and` of the list is taken apart, as long as there is one.
func conjunctsByWords(e impl.Tree) ([]impl.Tree, int) {
	if !exprRight(e) {
		return nil, impl.ErrBad
	}
	list := []impl.Tree{e}
	for {
		at := slices.IndexFunc(list, func(e impl.Tree) bool { return kindWords[e.Kind]+" "+e.Name == "binary and" })
		if at < 0 {
			return list, impl.OK
		}
		list = slices.Replace(slices.Clone(list), at, at+1, list[at].Kids...)
	}
}

// turnedSigns are the signs of a literal that is held against a column.
var turnedSigns = map[string]string{"=": "=", "<": ">", "<=": ">=", ">": "<", ">=": "<="}

// heldByWords are a part's column, its sign as if that one stood left, and its literal; no sign if it is not so.
func heldByWords(part impl.Tree) (impl.Tree, string, impl.Value) {
	if kindWords[part.Kind] != "binary" {
		return impl.Tree{}, "", impl.Value{}
	}
	left, right := part.Kids[0], part.Kids[1]
	switch letters := string([]byte{letterOf(left), letterOf(right)}); {
	case letters == "cl" && right.Val.Kind != impl.VaNull:
		return left, part.Name, right.Val
	case letters == "lc" && left.Val.Kind != impl.VaNull:
		return right, turnedSigns[part.Name], left.Val
	}
	return impl.Tree{}, "", impl.Value{}
}

// rangeByWords is a range and its points out of those parts that are about one column.
func rangeByWords(parts []impl.Tree, column impl.Column) (string, string, int) {
	lows, highs, points := []string{""}, []string(nil), 0
	for _, part := range parts {
		held, sign, v := heldByWords(part)
		if held.Name != column.Name || sign == "" {
			continue
		}
		switch sign {
		case "=":
			lows, highs, points = append(lows, keyOf(v)), append(highs, behindOf(v)), points+4
		case "<":
			highs, points = append(highs, keyOf(v)), points+1
		case "<=":
			highs, points = append(highs, behindOf(v)), points+1
		case ">":
			lows, points = append(lows, behindOf(v)), points+1
		case ">=":
			lows, points = append(lows, keyOf(v)), points+1
		}
	}
	high := ""
	if len(highs) > 0 {
		high = slices.Min(highs)
	}
	return slices.Max(lows), high, points
}

func tableNamed(list []impl.Table, name string) (impl.Table, bool) {
	at := slices.IndexFunc(list, func(x impl.Table) bool { return x.Name == name })
	if at < 0 {
		return impl.Table{}, false
	}
	return list[at], true
}

// planByWords is what PlanSql is to answer.
func planByWords(n impl.Tree, list []impl.Table) (impl.Plan, int) {
	_, code, _ := checkedByWords(n, list)
	switch {
	case code != impl.OK:
		return impl.Plan{}, code
	case letterOf(n) != 's':
		return impl.Plan{}, impl.ErrBad
	}
	tables, wheres := partsOf(n, 'T'), partsOf(n, 'W')
	best := impl.Plan{Table: tables[0].Name, Index: -1}
	if len(tables) == 2 || len(wheres) == 0 {
		return best, impl.OK
	}
	if safe, _ := safeByWords(wheres[0].Kids[0]); !safe {
		return best, impl.OK
	}
	parts, _ := conjunctsByWords(wheres[0].Kids[0])
	x, _ := tableNamed(list, best.Table)
	for index, first := range append([]int{0}, firstColumns(x)...) {
		low, high, points := rangeByWords(parts, x.Columns[first])
		if points > best.Score {
			best = impl.Plan{Table: x.Name, Index: index - 1, Low: low, High: high, Score: points}
		}
	}
	return best, impl.OK
}

// firstColumns are those of a table's indexes.
func firstColumns(x impl.Table) []int {
	var list []int
	for _, one := range x.Indexes {
		list = append(list, one.Columns[0])
	}
	return list
}

// planRight asks of a plan in a catalog that is right.
func planRight(p impl.Plan, list []impl.Table) bool {
	x, found := tableNamed(list, p.Table)
	return found && -1 <= p.Index && p.Index <= len(x.Indexes)-1 && len(p.Low) < 201 && len(p.High) < 201 && 0 <= p.Score && p.Score <= 1000
}

// entryByWords are a row's key bytes, or those of its index entry.
func entryByWords(x impl.Table, index int, r []impl.Value) string {
	s := ""
	if index >= 0 {
		for _, at := range x.Indexes[index].Columns {
			s += keyOf(r[at])
		}
	}
	for _, v := range r[:x.Key] {
		s += keyOf(v)
	}
	return s
}

// planRowsByWords is what PlanRows is to answer.
func planRowsByWords(p impl.Plan, list []impl.Table, data []impl.Data) ([]int, int) {
	switch {
	case len(list) > 4096 || len(data) > 4096:
		return nil, impl.ErrLong
	case !dataByWords(list, data) || !planRight(p, list):
		return nil, impl.ErrBad
	}
	x, _ := tableNamed(list, p.Table)
	var places []int
	for _, d := range data {
		for i, r := range d.Rows {
			if d.Name != p.Table {
				continue
			}
			entry := entryByWords(x, p.Index, r)
			if strings.Compare(p.Low, entry) < 1 && (p.High == "" || strings.Compare(entry, p.High) < 0) {
				places = append(places, i)
			}
		}
	}
	return places, impl.OK
}

// runByWords is what RunPlan is to answer: what the query answers without a plan, and how many rows the plan finds.
func runByWords(n impl.Tree, list []impl.Table, data []impl.Data) (impl.Answer, int, int) {
	if len(list) > 4096 || len(data) > 4096 {
		return impl.Answer{}, 0, impl.ErrLong
	}
	answer, code := queryByWords(n, list, data)
	if code != impl.OK {
		return impl.Answer{}, 0, code
	}
	p, _ := planByWords(n, list)
	places, _ := planRowsByWords(p, list, data)
	return answer, len(places), impl.OK
}

// planTextByWords is what PlanText is to answer.
func planTextByWords(p impl.Plan, list []impl.Table) (string, int) {
	switch {
	case len(list) > 4096:
		return "", impl.ErrLong
	case !catalogRight(list) || !planRight(p, list):
		return "", impl.ErrBad
	case p.Score == 0:
		return p.Table + " all", impl.OK
	}
	x, _ := tableNamed(list, p.Table)
	way := "key"
	if p.Index >= 0 {
		way = "index " + x.Indexes[p.Index].Name
	}
	return fmt.Sprintf("%s %s from %x below %x", p.Table, way, p.Low, p.High), impl.OK
}

func wantSafe(t *testing.T, e impl.Tree, want bool, wanted int) {
	t.Helper()
	if got, code := impl.SafeExpr(e); got != want || code != wanted {
		t.Errorf("SafeExpr %.500s: %v %s, want %v %s", drawn(e), got, impl.CodeWord(code), want, impl.CodeWord(wanted))
	}
}

func sameTrees(a, b []impl.Tree) bool { return slices.EqualFunc(a, b, sameTree) }

func wantConjuncts(t *testing.T, e impl.Tree, want []impl.Tree, wanted int) {
	t.Helper()
	if got, code := impl.Conjuncts(e); !sameTrees(got, want) || code != wanted {
		t.Errorf("Conjuncts %.500s: %.500s %s, want %.500s %s", drawn(e), drawn(query(got...)), impl.CodeWord(code), drawn(query(want...)), impl.CodeWord(wanted))
	}
}

func wantPlan(t *testing.T, n impl.Tree, list []impl.Table, want impl.Plan, wanted int) {
	t.Helper()
	if got, code := impl.PlanSql(n, list); got != want || code != wanted {
		t.Errorf("PlanSql %.500s: %s %s, want %s %s", drawn(n), shownPlan(got), impl.CodeWord(code), shownPlan(want), impl.CodeWord(wanted))
	}
}

// shownPlan is short, however long the plan's texts are.
func shownPlan(p impl.Plan) string {
	return fmt.Sprintf("%.50q %d from %.40x below %.40x score %d", p.Table, p.Index, p.Low, p.High, p.Score)
}

func wantPlaces(t *testing.T, p impl.Plan, list []impl.Table, data []impl.Data, want []int, wanted int) {
	t.Helper()
	if got, code := impl.PlanRows(p, list, data); !slices.Equal(got, want) || code != wanted {
		t.Errorf("PlanRows %s: %v %s, want %v %s", shownPlan(p), got, impl.CodeWord(code), want, impl.CodeWord(wanted))
	}
}

func wantPlanText(t *testing.T, p impl.Plan, list []impl.Table, want string, wanted int) {
	t.Helper()
	if got, code := impl.PlanText(p, list); got != want || code != wanted {
		t.Errorf("PlanText %s: %.500q %s, want %.500q %s", shownPlan(p), got, impl.CodeWord(code), want, impl.CodeWord(wanted))
	}
}

func wantRun(t *testing.T, n impl.Tree, list []impl.Table, data []impl.Data, want impl.Answer, looked, wanted int) {
	t.Helper()
	got, count, code := impl.RunPlan(n, list, data)
	wantRows(t, "RunPlan "+drawn(n), got.Rows, code, want.Rows, wanted)
	if !slices.Equal(got.Fields, want.Fields) || count != looked {
		t.Errorf("RunPlan %.600s: fields %v, looked at %d, want %v, %d", drawn(n), got.Fields, count, want.Fields, looked)
	}
}

// plannedTables have keys of one and of several columns, and no index, one and several.
func plannedTables() []impl.Table {
	return roomyTables([]impl.Table{
		table("cases", "id int, status text, flag bool null, mark bytes null, n int null", 1, index("bystatus", 1), index("byn", 4, 1), index("bymark", 3), index("byflag", 2, 0)),
		table("notes", "about int, at int, what text, n int null", 2, index("byabout", 0, 2), index("byat", 1), index("again", 1, 3)),
		table("plain", "id int, n int null", 1),
		table("words", "word text, other text null, part bytes", 1, index("byother", 1)),
	})
}

// withoutIndexes has the same tables.
func withoutIndexes(list []impl.Table) []impl.Table {
	made := cloneTables(list)
	for i := range made {
		made[i].Indexes = nil
	}
	return made
}

// rolledIndexed has the same tables, with other indexes; tables with none are among them.
func rolledIndexed(d *dice, list []impl.Table) []impl.Table {
	made := cloneTables(list)
	for i, x := range made {
		made[i].Indexes = nil
		for k := range d.below(impl.MaxIndexes + 1) {
			made[i].Indexes = append(made[i].Indexes, rolledIndex(d, fmt.Sprint("x", k), len(x.Columns)))
		}
	}
	return made
}

// bounding is a column that is held against a literal, which may be null, on either side.
func (r *roller) bounding() impl.Tree {
	f := r.scope[r.below(len(r.scope))]
	values := valuesOfType(f.Type)
	v := values[r.below(len(values))]
	switch {
	case r.below(12) == 0:
		v = impl.Value{}
	case f.Type == impl.VaInt && (v.N < 0 || v.N > 999999999999999999 || r.below(3) > 0):
		v = num(r.below(5))
	}
	sign := r.pick("= = = <> < <= > >=")
	if r.below(3) == 0 {
		return pair(lit(v), sign, r.column(f))
	}
	return pair(r.column(f), sign, lit(v))
}

// bounded joins some conditions by `and`, most of which bound a column.
func (r *roller) bounded() impl.Tree {
	part := func() impl.Tree {
		switch choice := r.below(8); {
		case choice == 0:
			return r.canNotFail(1 + r.below(5))
		case choice == 1 && r.below(3) == 0:
			return r.expr(impl.VaBool, 5, false)
		case choice == 2:
			return unary("not", r.bounding())
		case choice == 3:
			return pair(r.bounding(), "or", r.bounding())
		}
		return r.bounding()
	}
	e := part()
	for range r.below(4) {
		if r.below(2) == 0 {
			e = pair(e, "and", part())
		} else {
			e = pair(part(), "and", e)
		}
	}
	return e
}

// rolledPlanned is a query of a catalog, most often of one table and with a where that bounds columns.
func rolledPlanned(d *dice, list []impl.Table, slip int) impl.Tree {
	n := rolledAsk(d, list, slip)
	if len(partsOf(n, 'T')) == 2 {
		n = rolledAsk(d, list, slip)
	}
	scope, code, _ := scopeByWords(list, n)
	if code != impl.OK || d.below(8) == 0 {
		return n
	}
	r := &roller{dice: dice{state: uint64(d.below(1 << 30))}, scope: scope, slip: slip}
	n = without(n, "W")
	at := slices.IndexFunc(n.Kids, func(part impl.Tree) bool { return strings.Contains("GRL", string(letterOf(part))) })
	if at < 0 {
		at = len(n.Kids)
	}
	return query(slices.Insert(n.Kids, at, where(r.bounded()))...)
}
