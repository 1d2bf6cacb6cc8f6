package tests

import (
	"fmt"
	"slices"
	"strings"
	"testing"

	"loop.example/g00208/impl"
)

// lines are rows of literals, such as "1, 'a'; 2, null".
func lines(words string) [][]impl.Value {
	var rows [][]impl.Value
	for _, part := range strings.FieldsFunc(words, func(c rune) bool { return c == ';' }) {
		r := row()
		for _, literal := range strings.Split(part, ",") {
			v, code := impl.ReadValue(strings.TrimSpace(literal))
			if code != impl.OK {
				panic("no literal: " + literal)
			}
			r = append(r, v)
		}
		rows = append(rows, r)
	}
	return roomy(rows, []impl.Value{num(77)})
}

// manyRows have each its place, and as many nulls as there are values behind it.
func manyRows(count, values int) [][]impl.Value {
	var rows [][]impl.Value
	for i := range count {
		r := append(row(num(i)), make([]impl.Value, max(0, values-1))...)
		rows = append(rows, r[:values])
	}
	return roomy(rows, []impl.Value{num(77)})
}

func shown(rows [][]impl.Value) string {
	var b strings.Builder
	for i, r := range rows {
		if i > 0 {
			b.WriteString("; ")
		}
		for k, v := range r {
			if k > 0 {
				b.WriteString(", ")
			}
			s, code := impl.ValueText(v)
			if code != impl.OK {
				s = fmt.Sprintf("%.80q of kind %d, %d", v.T, v.Kind, v.N)
			}
			b.WriteString(s)
		}
	}
	return b.String()
}

func shownGroups(groups [][][]impl.Value) []string {
	var list []string
	for _, rows := range groups {
		list = append(list, shown(rows))
	}
	return list
}

func sameRows(a, b [][]impl.Value) bool { return slices.EqualFunc(a, b, slices.Equal[[]impl.Value]) }

func cloneRows(rows [][]impl.Value) [][]impl.Value {
	var made [][]impl.Value
	for _, r := range rows {
		made = append(made, append([]impl.Value(nil), r...))
	}
	return made
}

// wantRows asks for rows or for a code, and with a code for nothing else.
func wantRows(t *testing.T, what string, got [][]impl.Value, code int, want [][]impl.Value, wanted int) {
	t.Helper()
	if code != wanted || !sameRows(got, want) {
		t.Errorf("%.600s: %.900s %s, want %.900s %s", what, shown(got), impl.CodeWord(code), shown(want), impl.CodeWord(wanted))
	}
}

func wantProduct(t *testing.T, a, b, want [][]impl.Value, wanted int) {
	t.Helper()
	got, code := impl.ProductRows(a, b)
	wantRows(t, fmt.Sprintf("ProductRows of %.200s and %.200s", shown(a), shown(b)), got, code, want, wanted)
}

func wantFilter(t *testing.T, e impl.Tree, scope []impl.Field, rows, want [][]impl.Value, wanted int) {
	t.Helper()
	got, code := impl.FilterRows(e, scope, rows)
	wantRows(t, fmt.Sprintf("FilterRows %.300s of %.300s", drawn(e), shown(rows)), got, code, want, wanted)
}

func wantProject(t *testing.T, list []impl.Tree, scope []impl.Field, rows, want [][]impl.Value, wanted int) {
	t.Helper()
	got, code := impl.ProjectRows(list, scope, rows)
	wantRows(t, fmt.Sprintf("ProjectRows %.300s of %.300s", drawn(query(list...)), shown(rows)), got, code, want, wanted)
}

func wantSorted(t *testing.T, keys [][]impl.Value, down []bool, rows, want [][]impl.Value, wanted int) {
	t.Helper()
	got, code := impl.SortRows(keys, down, rows)
	wantRows(t, fmt.Sprintf("SortRows %.200s by %.300s, %d flags", shown(rows), shown(keys), len(down)), got, code, want, wanted)
}

func wantGroups(t *testing.T, columns []int, rows [][]impl.Value, want [][][]impl.Value, wanted int) {
	t.Helper()
	got, code := impl.GroupRows(columns, rows)
	if code != wanted || !slices.EqualFunc(got, want, sameRows) {
		t.Errorf("GroupRows %.300s by %d columns: %.900q %s, want %.900q %s", shown(rows), len(columns), shownGroups(got), impl.CodeWord(code), shownGroups(want), impl.CodeWord(wanted))
	}
}

func wantBag(t *testing.T, a, b [][]impl.Value, want bool, wanted int) {
	t.Helper()
	if got, code := impl.SameBag(a, b); got != want || code != wanted {
		t.Errorf("SameBag of %.300s and %.300s: %v %s, want %v %s", shown(a), shown(b), got, impl.CodeWord(code), want, impl.CodeWord(wanted))
	}
}

func wantAnswer(t *testing.T, n impl.Tree, list []impl.Table, data []impl.Data, want impl.Answer, wanted int) {
	t.Helper()
	got, code := impl.Query(n, list, data)
	wantRows(t, "Query "+drawn(n), got.Rows, code, want.Rows, wanted)
	if !slices.Equal(got.Fields, want.Fields) {
		t.Errorf("Query %.600s: fields %v, want %v", drawn(n), got.Fields, want.Fields)
	}
}

// rowsRight says that there are no more rows than may be, each of so many right values at most.
func rowsRight(rows [][]impl.Value, values int) bool {
	wrong := func(r []impl.Value) bool { return len(r) > values || !allRightValues(r) }
	return len(rows) < 401 && !slices.ContainsFunc(rows, wrong)
}

func orderOfRows(a, b []impl.Value) int { return slices.CompareFunc(a, b, orderOfValues) }

// nameOfRow is of no other row.
func nameOfRow(r []impl.Value) string {
	var b strings.Builder
	for _, v := range r {
		fmt.Fprintf(&b, "%d %d %q;", v.Kind, v.N, v.T)
	}
	return b.String()
}

// dataByWords is what DataOK is to answer.
func dataByWords(list []impl.Table, data []impl.Data) bool {
	if !catalogRight(list) || len(list) != len(data) {
		return false
	}
	for i, x := range list {
		if data[i].Name != x.Name || len(data[i].Rows) > 400 {
			return false
		}
		var last []impl.Value
		for _, r := range data[i].Rows {
			if code, _ := checkByWords(x, r); code != impl.OK {
				return false
			}
			if last != nil && orderOfRows(last, r[:x.Key]) != -1 {
				return false
			}
			last = r[:x.Key]
		}
	}
	return true
}

// productByWords is what ProductRows is to answer.
func productByWords(a, b [][]impl.Value) ([][]impl.Value, int) {
	switch {
	case len(a) > 4096 || len(b) > 4096:
		return nil, impl.ErrLong
	case !rowsRight(a, 8) || !rowsRight(b, 8):
		return nil, impl.ErrBad
	}
	return pairsByWords(a, b)
}

func pairsByWords(a, b [][]impl.Value) ([][]impl.Value, int) {
	var rows [][]impl.Value
	for i := range len(a) * len(b) {
		rows = append(rows, append(slices.Clone(a[i/len(b)]), b[i%len(b)]...))
	}
	if len(rows) > 400 {
		return nil, impl.ErrMany
	}
	return rows, impl.OK
}

func hasAggregate(e impl.Tree) bool {
	return slices.ContainsFunc(nodesOf(&e), func(p *impl.Tree) bool { return letterOf(*p) == 'a' })
}

// rowsRightOf does not ask how many rows there are.
func rowsRightOf(scope []impl.Field, rows [][]impl.Value) bool {
	return !slices.ContainsFunc(rows, func(r []impl.Value) bool { return !rowRight(scope, r) })
}

// filterByWords is what FilterRows is to answer.
func filterByWords(e impl.Tree, scope []impl.Field, rows [][]impl.Value) ([][]impl.Value, int) {
	if len(scope) > 4096 || len(rows) > 4096 {
		return nil, impl.ErrLong
	}
	kind, code, _ := typedByWords(e, scope)
	switch {
	case code != impl.OK:
		return nil, code
	case hasAggregate(e) || len(rows) > 400 || !rowsRightOf(scope, rows):
		return nil, impl.ErrBad
	case kind != impl.VaBool && kind != impl.VaNull:
		return nil, impl.ErrType
	}
	return truesByWords(e, scope, rows)
}

func truesByWords(e impl.Tree, scope []impl.Field, rows [][]impl.Value) ([][]impl.Value, int) {
	var left [][]impl.Value
	for _, r := range rows {
		v, code := evalByWords(e, scope, r)
		if code != impl.OK {
			return nil, code
		}
		if v == flag(1) {
			left = append(left, r)
		}
	}
	return left, impl.OK
}

// projectByWords is what ProjectRows is to answer.
func projectByWords(list []impl.Tree, scope []impl.Field, rows [][]impl.Value) ([][]impl.Value, int) {
	if len(list) > 4096 || len(scope) > 4096 || len(rows) > 4096 {
		return nil, impl.ErrLong
	}
	for _, e := range list {
		if _, code, _ := typedByWords(e, scope); code != impl.OK {
			return nil, code
		}
		if hasAggregate(e) || !rowsRightOf(scope, rows) {
			return nil, impl.ErrBad
		}
	}
	if len(list) > 120 || len(rows) > 400 {
		return nil, impl.ErrBad
	}
	made := make([][]impl.Value, len(rows))
	for i, r := range rows {
		for _, e := range list {
			v, code := evalByWords(e, scope, r)
			if code != impl.OK {
				return nil, code
			}
			made[i] = append(made[i], v)
		}
	}
	return made, impl.OK
}

// aheadByWords says that a key comes ahead of another one.
func aheadByWords(a, b []impl.Value, down []bool) bool {
	for i, falls := range down {
		if order := orderOfValues(a[i], b[i]); order != 0 {
			return (order < 0) != falls
		}
	}
	return false
}

// placesByWords are the places of keys in their order: again and again the first ahead of which none is.
func placesByWords(keys [][]impl.Value, down []bool) []int {
	var places []int
	left := run(0, len(keys))
	for len(left) > 0 {
		next := slices.IndexFunc(left, func(at int) bool {
			return !slices.ContainsFunc(left, func(other int) bool { return aheadByWords(keys[other], keys[at], down) })
		})
		places = append(places, left[next])
		left = slices.Delete(left, next, next+1)
	}
	return places
}

// sortByWords is what SortRows is to answer.
func sortByWords(keys [][]impl.Value, down []bool, rows [][]impl.Value) ([][]impl.Value, int) {
	switch {
	case len(keys) > 4096 || len(down) > 4096 || len(rows) > 4096:
		return nil, impl.ErrLong
	case len(keys) != len(rows) || !rowsRight(keys, 16) || !rowsRight(rows, 16) || len(down) > 16:
		return nil, impl.ErrBad
	case slices.ContainsFunc(keys, func(key []impl.Value) bool { return len(key) != len(down) }):
		return nil, impl.ErrCount
	}
	var made [][]impl.Value
	for _, at := range placesByWords(keys, down) {
		made = append(made, rows[at])
	}
	return made, impl.OK
}

// groupByWords is what GroupRows is to answer.
func groupByWords(columns []int, rows [][]impl.Value) ([][][]impl.Value, int) {
	switch {
	case len(columns) > 4096 || len(rows) > 4096:
		return nil, impl.ErrLong
	case !rowsRight(rows, 16):
		return nil, impl.ErrBad
	}
	for _, r := range rows {
		for _, at := range columns {
			if at < 0 || at > len(r)-1 {
				return nil, impl.ErrRange
			}
		}
	}
	return partedByWords(columns, rows), impl.OK
}

func partedByWords(columns []int, rows [][]impl.Value) [][][]impl.Value {
	parts, keys := map[string][][]impl.Value{}, map[string][]impl.Value{}
	for _, r := range rows {
		var key []impl.Value
		for _, at := range columns {
			key = append(key, r[at])
		}
		name := nameOfRow(key)
		parts[name], keys[name] = append(parts[name], r), key
	}
	var names []string
	for name := range parts {
		names = append(names, name)
	}
	slices.SortFunc(names, func(a, b string) int { return orderOfRows(keys[a], keys[b]) })
	var groups [][][]impl.Value
	for _, name := range names {
		groups = append(groups, parts[name])
	}
	return groups
}

// bagByWords is what SameBag is to answer.
func bagByWords(a, b [][]impl.Value) (bool, int) {
	switch {
	case len(a) > 4096 || len(b) > 4096:
		return false, impl.ErrLong
	case !rowsRight(a, 16) || !rowsRight(b, 16):
		return false, impl.ErrBad
	}
	count := map[string]int{}
	for _, r := range a {
		count[nameOfRow(r)]++
	}
	for _, r := range b {
		count[nameOfRow(r)]--
	}
	for _, n := range count {
		if n != 0 {
			return false, impl.OK
		}
	}
	return true, impl.OK
}

// overByWords is an expression that has a type, over the rows of a group.
func overByWords(e impl.Tree, scope []impl.Field, group [][]impl.Value) (impl.Value, int) {
	var values []impl.Value
	switch letterOf(e) {
	case 'l':
		return e.Val, impl.OK
	case 'c':
		return group[0][foundByWords(scope, e.Of, e.Name)[0]], impl.OK
	case 'a':
		if len(e.Kids) == 0 {
			return num(len(group)), impl.OK
		}
		for _, r := range group {
			v, code := evalByWords(e.Kids[0], scope, r)
			if code != impl.OK {
				return impl.Value{}, code
			}
			values = append(values, v)
		}
		return aggByWords(e.Name, values)
	}
	for _, kid := range e.Kids {
		v, code := overByWords(kid, scope, group)
		if code != impl.OK {
			return impl.Value{}, code
		}
		values = append(values, v)
	}
	return madeByWords(e.Name, values)
}

// partsOf are a query's parts of a letter.
func partsOf(n impl.Tree, letter byte) []impl.Tree {
	var list []impl.Tree
	for _, part := range n.Kids {
		if letterOf(part) == letter {
			list = append(list, part)
		}
	}
	return list
}

// sourceByWords are the rows of a query's tables, of which its `on` and then its `where` are true.
func sourceByWords(n impl.Tree, scope []impl.Field, data []impl.Data) ([][]impl.Value, int) {
	rows, code := [][]impl.Value{nil}, impl.OK
	for _, part := range partsOf(n, 'T') {
		at := slices.IndexFunc(data, func(d impl.Data) bool { return d.Name == part.Name })
		if rows, code = pairsByWords(rows, data[at].Rows); code != impl.OK {
			return nil, code
		}
	}
	for _, letter := range []byte("OW") {
		for _, part := range partsOf(n, letter) {
			if rows, code = truesByWords(part.Kids[0], scope, rows); code != impl.OK {
				return nil, code
			}
		}
	}
	return rows, impl.OK
}

func groupsByWords(n impl.Tree, scope []impl.Field, rows [][]impl.Value) [][][]impl.Value {
	if !groupedByWords(n) {
		var alone [][][]impl.Value
		for _, r := range rows {
			alone = append(alone, [][]impl.Value{r})
		}
		return alone
	}
	for _, part := range partsOf(n, 'G') {
		var columns []int
		for _, column := range part.Kids {
			columns = append(columns, foundByWords(scope, column.Of, column.Name)...)
		}
		return partedByWords(columns, rows)
	}
	return [][][]impl.Value{rows}
}

// queryByWords is what Query is to answer.
func queryByWords(n impl.Tree, list []impl.Table, data []impl.Data) (impl.Answer, int) {
	if len(list) > 4096 || len(data) > 4096 {
		return impl.Answer{}, impl.ErrLong
	}
	told, code, _ := checkedByWords(n, list)
	switch {
	case code != impl.OK:
		return impl.Answer{}, code
	case letterOf(n) != 's' || !dataByWords(list, data):
		return impl.Answer{}, impl.ErrBad
	}
	rows, code := selectByWords(n, list, data)
	if code != impl.OK {
		return impl.Answer{}, code
	}
	return impl.Answer{Fields: told, Rows: rows}, impl.OK
}

// selectByWords asks of a query that is checked, and of data that are right.
func selectByWords(n impl.Tree, list []impl.Table, data []impl.Data) ([][]impl.Value, int) {
	scope, _, _ := scopeByWords(list, n)
	rows, code := sourceByWords(n, scope, data)
	if code != impl.OK {
		return nil, code
	}
	var made, keys [][]impl.Value
	for _, group := range groupsByWords(n, scope, rows) {
		values := map[byte][]impl.Value{}
		for _, letter := range []byte("IR") {
			for _, part := range partsOf(n, letter) {
				v, code := overByWords(part.Kids[0], scope, group)
				if code != impl.OK {
					return nil, code
				}
				values[letter] = append(values[letter], v)
			}
		}
		made, keys = append(made, values['I']), append(keys, values['R'])
	}
	var down []bool
	for _, part := range partsOf(n, 'R') {
		down = append(down, part.N > 0)
	}
	var answer [][]impl.Value
	for _, at := range placesByWords(keys, down) {
		answer = append(answer, made[at])
	}
	for _, part := range partsOf(n, 'L') {
		answer = answer[:min(len(answer), part.N)]
	}
	return answer, impl.OK
}

// answerByWords is what AnswerText is to answer.
func answerByWords(a impl.Answer) (string, int) {
	if !rowsRight(a.Rows, 120) {
		return "", impl.ErrBad
	}
	s := ""
	for _, r := range a.Rows {
		var list []string
		for _, v := range r {
			literal, _ := impl.ValueText(v)
			list = append(list, literal)
		}
		s += "(" + strings.Join(list, ", ") + ")\n"
	}
	return s, impl.OK
}

// rolledCell is a value of a column; few of them differ.
func rolledCell(d *dice, c impl.Column) impl.Value {
	list := valuesOfType(c.Type)
	switch {
	case c.Null && d.below(4) == 0:
		return impl.Value{}
	case c.Type == impl.VaInt && d.below(12) > 0:
		return num(d.below(6) - 2)
	}
	return list[d.below(len(list))]
}

// rolledData are right: at most so many rows of each table.
func rolledData(d *dice, list []impl.Table, most int) []impl.Data {
	var data []impl.Data
	for _, x := range list {
		var rows [][]impl.Value
		for range d.below(most + 1) {
			r := row()
			for _, c := range x.Columns {
				r = append(r, rolledCell(d, c))
			}
			rows = append(rows, r)
		}
		keyOrder := func(a, b []impl.Value) int { return orderOfRows(a[:x.Key], b[:x.Key]) }
		slices.SortFunc(rows, keyOrder)
		rows = slices.CompactFunc(rows, func(a, b []impl.Value) bool { return keyOrder(a, b) == 0 })
		data = append(data, impl.Data{Name: x.Name, Rows: roomy(rows, []impl.Value{num(77)})})
	}
	return roomy(data, impl.Data{Name: "behind"})
}

// rolledAsk is a query of typedTables, some of whose orders rise; it may have a limit.
func rolledAsk(d *dice, list []impl.Table, slip int) impl.Tree {
	r := &roller{dice: dice{state: uint64(d.below(1 << 30))}, slip: slip}
	n := r.query(list, list[r.below(len(list))].Name)
	for i := range n.Kids {
		if letterOf(n.Kids[i]) == 'R' {
			n.Kids[i].N = d.below(2)
		}
	}
	if d.below(4) == 0 {
		n.Kids = append(n.Kids, limit(d.below(5)))
	}
	return n
}
