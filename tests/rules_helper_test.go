package tests

import (
	"cmp"
	"fmt"
	"reflect"
	"slices"
	"strconv"
	"strings"
	"testing"

	"loop.example/g00208/impl"
)

// eventWords stand each at its event's place.
var eventWords = []string{"", "insert", "update", "delete"}

// ruledTables are what most rules here are about.
func ruledTables() []impl.Table {
	return roomyTables([]impl.Table{
		table("cases", "id int, status text null, n int null, flag bool null", 1, index("bystatus", 1)),
		table("log", "id int, at int, what text null, n int", 2),
		table("marks", "mark bytes, word text, other text null", 2),
		table("notes", "id int, what text null", 1),
	})
}

// ruledData are right of ruledTables.
func ruledData() []impl.Data {
	return dataOf(
		"cases: 1, 'open', 5, true; 2, 'done', 0, false; 3, null, null, null; 5, 'open', 7, null",
		"log: 1, 0, 'made', 2; 1, 3, null, 4",
		"marks: x'', 'a', 'b'; x'00', 'a', null",
		"notes: 1, 'one'; 10, null")
}

// parsed is a statement that is right.
func parsed(s string) impl.Tree {
	n, code, at := impl.ParseSql(s)
	if code != impl.OK {
		panic(fmt.Sprintf("%s: %s at %d", s, impl.CodeWord(code), at))
	}
	return roomyTree(n)
}

// parsedExpr is an expression, which may have aggregates.
func parsedExpr(s string) impl.Tree { return parsed("select " + s + " from t").Kids[0].Kids[0] }

// rule is of words such as "first on cases insert 1 when n is null set n = 0 into notes (id * 10, status)"; its columns are those of ruledTables.
func rule(words string) impl.Rule {
	words, into, _ := strings.Cut(words, " into ")
	words, sets, _ := strings.Cut(words, " set ")
	head, when, _ := strings.Cut(words, " when ")
	part := strings.Fields(head)
	priority, err := strconv.Atoi(part[4])
	if err != nil {
		panic(words)
	}
	r := impl.Rule{Name: part[0], Table: part[2], Event: slices.Index(eventWords, part[3]), Priority: priority, When: parsedExpr(when)}
	x, _ := tableNamed(ruledTables(), r.Table)
	if sets != "" {
		for _, set := range parsed("update t set " + sets).Kids {
			column := slices.IndexFunc(x.Columns, func(c impl.Column) bool { return c.Name == set.Name })
			r.Sets = append(r.Sets, impl.Setting{Column: column, Expr: set.Kids[0]})
		}
	}
	if name, exprs, found := strings.Cut(into, " "); found {
		r.Into, r.Exprs = name, parsed("insert into t values "+exprs).Kids
	}
	return roomyRule(r)
}

func rules(words ...string) []impl.Rule {
	var list []impl.Rule
	for _, w := range words {
		list = append(list, rule(w))
	}
	return roomy(list, impl.Rule{Name: "behind"})
}

// guard is of steps such as ">open" and "open>done".
func guard(name string, column int, steps ...string) impl.Guard {
	g := impl.Guard{Table: name, Column: column}
	for _, step := range steps {
		from, to, _ := strings.Cut(step, ">")
		g.Steps = append(g.Steps, impl.Entry{Key: from, Value: to})
	}
	g.Steps = roomy(g.Steps, impl.Entry{Key: "behind", Value: "behind"})
	return g
}

func inserted(name string, r []impl.Value) impl.Change {
	return impl.Change{Event: impl.EvInsert, Table: name, New: r}
}

func updated(name string, old, r []impl.Value) impl.Change {
	return impl.Change{Event: impl.EvUpdate, Table: name, Old: old, New: r}
}

func deleted(name string, old []impl.Value) impl.Change {
	return impl.Change{Event: impl.EvDelete, Table: name, Old: old}
}

// one is a row of literals.
func one(words string) []impl.Value { return lines(words)[0] }

// changeOf is of words such as "insert cases: 1, 'a'" and "update cases: 1, 'a' > 1, 'b'".
func changeOf(words string) impl.Change {
	head, values, _ := strings.Cut(words, ": ")
	event, name, _ := strings.Cut(head, " ")
	old, new, both := strings.Cut(values, " > ")
	switch event {
	case "insert":
		return inserted(name, one(values))
	case "delete":
		return deleted(name, one(values))
	}
	if !both {
		panic("no change: " + words)
	}
	return updated(name, one(old), one(new))
}

func changeList(words ...string) []impl.Change {
	var list []impl.Change
	for _, w := range words {
		list = append(list, changeOf(w))
	}
	return roomy(list, impl.Change{Event: 77})
}

// shownChange is what changeOf is of.
func shownChange(c impl.Change) string {
	event := fmt.Sprint(c.Event)
	if c.Event > 0 && c.Event < len(eventWords) {
		event = eventWords[c.Event]
	}
	var sides []string
	for _, r := range [][]impl.Value{c.Old, c.New} {
		if len(r) > 0 {
			sides = append(sides, fmt.Sprintf("%.300s", shown([][]impl.Value{r})))
		}
	}
	return fmt.Sprintf("%s %.50s: %s", event, c.Table, strings.Join(sides, " > "))
}

func shownChanges(list []impl.Change) string {
	var words []string
	for _, c := range list {
		words = append(words, shownChange(c))
	}
	return strings.Join(words, " | ")
}

func shownData(data []impl.Data) string {
	var words []string
	for _, d := range data {
		words = append(words, d.Name+": "+shown(d.Rows))
	}
	return strings.Join(words, " | ")
}

func shownRule(r impl.Rule) string {
	s := fmt.Sprintf("%.50s on %.50s %d %d when %.300s", r.Name, r.Table, r.Event, r.Priority, drawn(r.When))
	for _, set := range r.Sets[:min(len(r.Sets), 10)] {
		s += fmt.Sprintf(" set %d %.200s", set.Column, drawn(set.Expr))
	}
	if r.Into != "" || len(r.Exprs) > 0 {
		s += fmt.Sprintf(" into %.50s %d", r.Into, len(r.Exprs))
	}
	for _, e := range r.Exprs[:min(len(r.Exprs), 10)] {
		s += fmt.Sprintf(" %.200s", drawn(e))
	}
	return s
}

func shownRules(list []impl.Rule) string {
	var words []string
	for _, r := range list {
		words = append(words, shownRule(r))
	}
	return strings.Join(words, "\n")
}

func shownGuards(list []impl.Guard) string {
	var words []string
	for _, g := range list {
		words = append(words, fmt.Sprintf("%.50s %d", g.Table, g.Column))
		for _, step := range g.Steps {
			words = append(words, fmt.Sprintf("%.30q>%.30q", step.Key, step.Value))
		}
	}
	return strings.Join(words, " ")
}

func sameChange(a, b impl.Change) bool {
	return a.Event == b.Event && a.Table == b.Table && slices.Equal(a.Old, b.Old) && slices.Equal(a.New, b.New)
}

func sameChanges(a, b []impl.Change) bool { return slices.EqualFunc(a, b, sameChange) }

func sameData(a, b []impl.Data) bool {
	return slices.EqualFunc(a, b, func(a, b impl.Data) bool { return a.Name == b.Name && sameRows(a.Rows, b.Rows) })
}

// roomyRule has lists of its own, with room behind their ends.
func roomyRule(r impl.Rule) impl.Rule {
	r.When = roomyTree(r.When)
	r.Sets = slices.Clone(r.Sets)
	for i, set := range r.Sets {
		r.Sets[i].Expr = roomyTree(set.Expr)
	}
	r.Sets = roomy(r.Sets, impl.Setting{Column: 77})
	r.Exprs = slices.Clone(r.Exprs)
	for i, e := range r.Exprs {
		r.Exprs[i] = roomyTree(e)
	}
	r.Exprs = roomy(r.Exprs, impl.Tree{Kind: 77})
	return r
}

// ruleScope are the fields that a rule's expressions may look at.
func ruleScope(x impl.Table) []impl.Field {
	var scope []impl.Field
	for _, c := range x.Columns {
		scope = append(scope, impl.Field{Of: x.Name, Name: c.Name, Type: c.Type})
	}
	return scope
}

// ofTypeByWords says that an expression of a row is of a type; null is of any.
func ofTypeByWords(e impl.Tree, scope []impl.Field, kind int) bool {
	is, code, _ := typedByWords(e, scope)
	return code == impl.OK && !hasAggregate(e) && (is == kind || is == impl.VaNull)
}

// ruleByWords is what RuleOK is to answer.
func ruleByWords(r impl.Rule, list []impl.Table) bool {
	x, found := tableNamed(list, r.Table)
	isName := len(r.Name) <= 40 && nameForm.MatchString(r.Name)
	if !catalogRight(list) || !found || !isName || !slices.Contains([]int{1, 2, 3}, r.Event) || r.Priority < 0 || r.Priority > 100 || len(r.Sets) > 8 {
		return false
	}
	scope, seen := ruleScope(x), map[int]int{}
	for _, set := range r.Sets {
		seen[set.Column]++
		if r.Event == impl.EvDelete || set.Column < x.Key || set.Column > len(x.Columns)-1 || seen[set.Column] > 1 || !ofTypeByWords(set.Expr, scope, x.Columns[set.Column].Type) {
			return false
		}
	}
	into, there := tableNamed(list, r.Into)
	if r.Into != "" && !there || len(r.Exprs) != len(into.Columns) {
		return false
	}
	for i, e := range r.Exprs {
		if !ofTypeByWords(e, scope, into.Columns[i].Type) {
			return false
		}
	}
	return ofTypeByWords(r.When, scope, impl.VaBool)
}

// guardByWords is what GuardOK is to answer.
func guardByWords(g impl.Guard, list []impl.Table) bool {
	x, found := tableNamed(list, g.Table)
	if !catalogRight(list) || !found || g.Column < 0 || g.Column > len(x.Columns)-1 || len(g.Steps) > 20 {
		return false
	}
	for _, step := range g.Steps {
		if len(step.Key) > 60 || len(step.Value) > 60 {
			return false
		}
	}
	return typeNames[x.Columns[g.Column].Type] == "text"
}

// stepByWords is what GuardStep is to answer.
func stepByWords(g impl.Guard, c impl.Change) (bool, int) {
	if len(c.Old) > 8 || len(c.New) > 8 || len(g.Steps) > 20 {
		return false, impl.ErrBad
	}
	if c.Table != g.Table || c.Event == impl.EvDelete {
		return true, impl.OK
	}
	texts := []string{"", ""}
	for i, r := range [][]impl.Value{c.Old, c.New} {
		if i == 0 && c.Event == impl.EvInsert {
			continue
		}
		if g.Column < 0 || g.Column > len(r)-1 {
			return false, impl.ErrBad
		}
		if r[g.Column].Kind != impl.VaNull {
			texts[i] = r[g.Column].T
		}
	}
	if c.Event == impl.EvUpdate && texts[0] == texts[1] {
		return true, impl.OK
	}
	return slices.ContainsFunc(g.Steps, func(e impl.Entry) bool { return e.Key == texts[0] && e.Value == texts[1] }), impl.OK
}

// changeByWords says that a change is right in a right catalog.
func changeByWords(c impl.Change, list []impl.Table) bool {
	x, found := tableNamed(list, c.Table)
	sides := map[int][][]impl.Value{1: {c.New}, 2: {c.Old, c.New}, 3: {c.Old}}[c.Event]
	for _, r := range sides {
		if code, _ := checkByWords(x, r); !found || code != impl.OK {
			return false
		}
	}
	return len(sides) == 1 || len(sides) == 2 && slices.Equal(c.Old[:x.Key], c.New[:x.Key])
}

func rulesByWords(rules []impl.Rule, list []impl.Table) bool {
	return len(rules) < 9 && !slices.ContainsFunc(rules, func(r impl.Rule) bool { return !ruleByWords(r, list) })
}

// firedOrder are the places of rules in the order in which they are to fire.
func firedOrder(rules []impl.Rule) []int {
	places := run(0, len(rules))
	slices.SortFunc(places, func(a, b int) int {
		return cmp.Or(cmp.Compare(rules[a].Priority, rules[b].Priority), strings.Compare(rules[a].Name, rules[b].Name), cmp.Compare(a, b))
	})
	return places
}

// matchByWords is what MatchRules is to answer.
func matchByWords(rules []impl.Rule, list []impl.Table, c impl.Change) ([]string, int) {
	switch {
	case len(rules) > 4096 || len(list) > 4096:
		return nil, impl.ErrLong
	case !catalogRight(list) || !changeByWords(c, list) || !rulesByWords(rules, list):
		return nil, impl.ErrBad
	}
	var names []string
	for _, at := range firedOrder(rules) {
		if rules[at].Table == c.Table && rules[at].Event == c.Event {
			names = append(names, rules[at].Name)
		}
	}
	return names, impl.OK
}

// shelf has the rows of each table by the names of their keys.
type shelf struct {
	list []impl.Table
	rows map[string]map[string][]impl.Value
}

func shelfOf(list []impl.Table, data []impl.Data) shelf {
	s := shelf{list: list, rows: map[string]map[string][]impl.Value{}}
	for i, d := range data {
		s.rows[d.Name] = map[string][]impl.Value{}
		for _, r := range d.Rows {
			s.rows[d.Name][nameOfRow(r[:list[i].Key])] = r
		}
	}
	return s
}

func (s shelf) keyName(name string, r []impl.Value) string {
	x, _ := tableNamed(s.list, name)
	return nameOfRow(r[:x.Key])
}

// data has the rows by their keys again.
func (s shelf) data() []impl.Data {
	var data []impl.Data
	for _, x := range s.list {
		var rows [][]impl.Value
		for _, r := range s.rows[x.Name] {
			rows = append(rows, r)
		}
		slices.SortFunc(rows, func(a, b []impl.Value) int { return orderOfRows(a[:x.Key], b[:x.Key]) })
		data = append(data, impl.Data{Name: x.Name, Rows: rows})
	}
	return data
}

// do makes a change that is right.
func (s shelf) do(c impl.Change) int {
	side := c.New
	if c.Event == impl.EvDelete {
		side = c.Old
	}
	rows, key := s.rows[c.Table], s.keyName(c.Table, side)
	_, there := rows[key]
	switch {
	case c.Event == impl.EvInsert && there:
		return impl.ErrTwice
	case c.Event == impl.EvInsert && len(rows) > 399:
		return impl.ErrFull
	case c.Event != impl.EvInsert && !there:
		return impl.ErrNone
	case c.Event == impl.EvDelete:
		delete(rows, key)
		return impl.OK
	}
	rows[key] = c.New
	return impl.OK
}

// applyByWords is what ApplyChange is to answer.
func applyByWords(list []impl.Table, data []impl.Data, c impl.Change) ([]impl.Data, int) {
	switch {
	case len(list) > 4096 || len(data) > 4096:
		return nil, impl.ErrLong
	case !dataByWords(list, data) || !changeByWords(c, list):
		return nil, impl.ErrBad
	}
	s := shelfOf(list, data)
	if code := s.do(c); code != impl.OK {
		return nil, code
	}
	return s.data(), impl.OK
}

// changesByWords is what StatementChanges is to answer.
func changesByWords(n impl.Tree, list []impl.Table, data []impl.Data) ([]impl.Change, int) {
	if len(list) > 4096 || len(data) > 4096 {
		return nil, impl.ErrLong
	}
	_, code, _ := checkedByWords(n, list)
	switch {
	case code != impl.OK:
		return nil, code
	case letterOf(n) == 's' || !dataByWords(list, data):
		return nil, impl.ErrBad
	}
	return wantedByWords(n, list, data)
}

// wantedByWords asks of a statement that is checked: all of where, then all sets by rows, then all rows.
func wantedByWords(n impl.Tree, list []impl.Table, data []impl.Data) ([]impl.Change, int) {
	x, _ := tableNamed(list, n.Name)
	scope := ruleScope(x)
	if letterOf(n) == 'i' {
		made, code := valuesByWords(n.Kids, nil, nil)
		if code == impl.OK {
			code, _ = checkByWords(x, made)
		}
		if code != impl.OK {
			return nil, code
		}
		return []impl.Change{inserted(n.Name, made)}, impl.OK
	}
	rows := data[slices.IndexFunc(data, func(d impl.Data) bool { return d.Name == n.Name })].Rows
	for _, part := range partsOf(n, 'W') {
		left, code := truesByWords(part.Kids[0], scope, rows)
		if code != impl.OK {
			return nil, code
		}
		rows = left
	}
	var list2 []impl.Change
	for _, r := range rows {
		if letterOf(n) == 'd' {
			list2 = append(list2, deleted(n.Name, r))
			continue
		}
		made, code := setByWords(settingsByWords(n, x), scope, r)
		if code != impl.OK {
			return nil, code
		}
		list2 = append(list2, updated(n.Name, r, made))
	}
	for _, c := range list2 {
		if code, _ := checkByWords(x, c.New); letterOf(n) == 'u' && code != impl.OK {
			return nil, code
		}
	}
	return list2, impl.OK
}

func settingsByWords(n impl.Tree, x impl.Table) []impl.Setting {
	var sets []impl.Setting
	for _, part := range n.Kids {
		if kindWords[part.Kind] == "set" {
			column := slices.IndexFunc(x.Columns, func(c impl.Column) bool { return c.Name == part.Name })
			sets = append(sets, impl.Setting{Column: column, Expr: part.Kids[0]})
		}
	}
	return sets
}

func setByWords(sets []impl.Setting, scope []impl.Field, r []impl.Value) ([]impl.Value, int) {
	made := slices.Clone(r)
	for _, set := range sets {
		v, code := evalByWords(set.Expr, scope, r)
		if code != impl.OK {
			return nil, code
		}
		made[set.Column] = v
	}
	return made, impl.OK
}

func valuesByWords(list []impl.Tree, scope []impl.Field, r []impl.Value) ([]impl.Value, int) {
	var made []impl.Value
	for _, e := range list {
		v, code := evalByWords(e, scope, r)
		if code != impl.OK {
			return nil, code
		}
		made = append(made, v)
	}
	return made, impl.OK
}

// acting is a statement that is executed, step by step.
type acting struct {
	shelf
	rules  []impl.Rule
	guards []impl.Guard
	fuel   int
	due    []impl.Change
	told   impl.Outcome
}

// executeByWords is what Execute is to answer.
func executeByWords(n impl.Tree, list []impl.Table, data []impl.Data, rules []impl.Rule, guards []impl.Guard, fuel int) ([]impl.Data, impl.Outcome, int) {
	if len(list) > 4096 || len(data) > 4096 || len(rules) > 4096 || len(guards) > 4096 {
		return nil, impl.Outcome{}, impl.ErrLong
	}
	_, code, _ := checkedByWords(n, list)
	switch {
	case code != impl.OK:
		return nil, impl.Outcome{}, code
	case letterOf(n) == 's' || !dataByWords(list, data) || !rulesByWords(rules, list) || len(guards) > 4 || slices.ContainsFunc(guards, func(g impl.Guard) bool { return !guardByWords(g, list) }):
		return nil, impl.Outcome{}, impl.ErrBad
	case fuel < 0 || fuel > 50:
		return nil, impl.Outcome{}, impl.ErrRange
	}
	a := &acting{shelf: shelfOf(list, data), rules: rules, guards: guards, fuel: fuel}
	if a.due, code = wantedByWords(n, list, data); code != impl.OK {
		return data, impl.Outcome{}, code
	}
	for len(a.due) > 0 {
		if code := a.step(); code != impl.OK {
			return data, impl.Outcome{}, code
		}
	}
	return a.data(), a.told, impl.OK
}

// step makes the first change that is due.
func (a *acting) step() int {
	c := a.due[0]
	a.due = a.due[1:]
	if c.Event == impl.EvUpdate {
		now, there := a.rows[c.Table][a.keyName(c.Table, c.New)]
		if !there {
			return impl.OK
		}
		next := slices.Clone(now)
		for i := range next {
			if c.Old[i] != c.New[i] {
				next[i] = c.New[i]
			}
		}
		if slices.Equal(now, next) {
			return impl.OK
		}
		c.Old, c.New = now, next
	}
	for _, g := range a.guards {
		if lets, _ := stepByWords(g, c); !lets {
			return impl.ErrGuard
		}
	}
	if code := a.do(c); code != impl.OK {
		return code
	}
	a.told.Changes = append(a.told.Changes, c)
	for _, at := range firedOrder(a.rules) {
		if code := a.look(a.rules[at], c); code != impl.OK {
			return code
		}
	}
	return impl.OK
}

// look has a rule look at a change that was made.
func (a *acting) look(r impl.Rule, c impl.Change) int {
	if r.Table != c.Table || r.Event != c.Event {
		return impl.OK
	}
	seen := c.New
	if c.Event == impl.EvDelete {
		seen = c.Old
	}
	x, _ := tableNamed(a.list, r.Table)
	scope := ruleScope(x)
	v, code := evalByWords(r.When, scope, seen)
	if code != impl.OK || v != flag(1) {
		return code
	}
	if a.fuel == 0 {
		return impl.ErrFuel
	}
	a.fuel--
	a.told.Fired = append(a.told.Fired, r.Name)
	made, code := setByWords(r.Sets, scope, seen)
	if code == impl.OK {
		code, _ = checkByWords(x, made)
	}
	if code != impl.OK {
		return code
	}
	if !slices.Equal(made, seen) {
		a.due = append(a.due, updated(r.Table, seen, made))
	}
	if r.Into == "" {
		return impl.OK
	}
	into, _ := tableNamed(a.list, r.Into)
	made, code = valuesByWords(r.Exprs, scope, seen)
	if code == impl.OK {
		code, _ = checkByWords(into, made)
	}
	if code != impl.OK {
		return code
	}
	a.due = append(a.due, inserted(r.Into, made))
	return impl.OK
}

// historyByWords is what HistoryOf is to answer.
func historyByWords(list []impl.Change, name string, column int, key []impl.Value) ([]string, int) {
	if len(list) > 4096 || len(name) > 65536 || len(key) > 4096 {
		return nil, impl.ErrLong
	}
	var texts []string
	for _, c := range list {
		if c.Table != name || len(c.New) < len(key) || orderOfRows(c.New[:len(key)], key) != 0 {
			continue
		}
		if column < 0 || column > len(c.New)-1 {
			return nil, impl.ErrRange
		}
		texts = append(texts, c.New[column].T)
	}
	return texts, impl.OK
}

func wantRule(t *testing.T, r impl.Rule, list []impl.Table, want bool) {
	t.Helper()
	if words := ruleByWords(r, list); words != want {
		t.Errorf("%.500s: by the words %v", shownRule(r), words)
	}
	if got := impl.RuleOK(r, list); got != want {
		t.Errorf("RuleOK %.500s: %v", shownRule(r), got)
	}
}

func wantGuard(t *testing.T, g impl.Guard, list []impl.Table, want bool) {
	t.Helper()
	if words := guardByWords(g, list); words != want {
		t.Errorf("%.500s: by the words %v", shownGuards([]impl.Guard{g}), words)
	}
	if got := impl.GuardOK(g, list); got != want {
		t.Errorf("GuardOK %.500s: %v", shownGuards([]impl.Guard{g}), got)
	}
}

func wantLet(t *testing.T, g impl.Guard, c impl.Change, want bool, wanted int) {
	t.Helper()
	if words, code := stepByWords(g, c); words != want || code != wanted {
		t.Errorf("%.300s, %s: by the words %v %s", shownGuards([]impl.Guard{g}), shownChange(c), words, impl.CodeWord(code))
	}
	if got, code := impl.GuardStep(g, c); got != want || code != wanted {
		t.Errorf("GuardStep %.300s, %s: %v %s, want %v %s", shownGuards([]impl.Guard{g}), shownChange(c), got, impl.CodeWord(code), want, impl.CodeWord(wanted))
	}
}

func wantMatched(t *testing.T, rules []impl.Rule, list []impl.Table, c impl.Change, want []string, wanted int) {
	t.Helper()
	if words, code := matchByWords(rules, list, c); !slices.Equal(words, want) || code != wanted {
		t.Errorf("%s: by the words %v %s", shownChange(c), words, impl.CodeWord(code))
	}
	if got, code := impl.MatchRules(rules, list, c); !slices.Equal(got, want) || code != wanted {
		t.Errorf("MatchRules of %s: %v %s, want %v %s", shownChange(c), got, impl.CodeWord(code), want, impl.CodeWord(wanted))
	}
}

func wantApplied(t *testing.T, list []impl.Table, data []impl.Data, c impl.Change, want []impl.Data, wanted int) {
	t.Helper()
	if words, code := applyByWords(list, data, c); !sameData(words, want) || code != wanted {
		t.Errorf("%s: by the words %.500s %s", shownChange(c), shownData(words), impl.CodeWord(code))
	}
	if got, code := impl.ApplyChange(list, data, c); !sameData(got, want) || code != wanted {
		t.Errorf("ApplyChange %s: %.500s %s, want %.500s %s", shownChange(c), shownData(got), impl.CodeWord(code), shownData(want), impl.CodeWord(wanted))
	}
}

func wantChanges(t *testing.T, n impl.Tree, list []impl.Table, data []impl.Data, want []impl.Change, wanted int) {
	t.Helper()
	if words, code := changesByWords(n, list, data); !sameChanges(words, want) || code != wanted {
		t.Errorf("%.300s: by the words %.500s %s", drawn(n), shownChanges(words), impl.CodeWord(code))
	}
	if got, code := impl.StatementChanges(n, list, data); !sameChanges(got, want) || code != wanted {
		t.Errorf("StatementChanges %.300s: %.900s %s, want %.900s %s", drawn(n), shownChanges(got), impl.CodeWord(code), shownChanges(want), impl.CodeWord(wanted))
	}
}

func wantHistory(t *testing.T, list []impl.Change, name string, column int, key []impl.Value, want []string, wanted int) {
	t.Helper()
	if words, code := historyByWords(list, name, column, key); !slices.Equal(words, want) || code != wanted {
		t.Errorf("%d of %.50s %v: by the words %q %s", column, name, key, words, impl.CodeWord(code))
	}
	if got, code := impl.HistoryOf(list, name, column, key); !slices.Equal(got, want) || code != wanted {
		t.Errorf("HistoryOf %d of %.50s %.200v: %q %s, want %q %s", column, name, key, got, impl.CodeWord(code), want, impl.CodeWord(wanted))
	}
}

// tried is all that Execute is asked of.
type tried struct {
	n      impl.Tree
	list   []impl.Table
	data   []impl.Data
	rules  []impl.Rule
	guards []impl.Guard
	fuel   int
}

func (x tried) words() ([]impl.Data, impl.Outcome, int) {
	return executeByWords(x.n, x.list, x.data, x.rules, x.guards, x.fuel)
}

func (x tried) do() ([]impl.Data, impl.Outcome, int) {
	return impl.Execute(x.n, x.list, x.data, x.rules, x.guards, x.fuel)
}

func (x tried) shown() string {
	return fmt.Sprintf("%.400s with fuel %d, guards %.300s, rules\n%.1500s\nover %.600s\n", drawn(x.n), x.fuel, shownGuards(x.guards), shownRules(x.rules), shownData(x.data))
}

// wantExecuted holds what is executed against the words, which it answers.
func wantExecuted(t *testing.T, x tried) ([]impl.Data, impl.Outcome, int) {
	t.Helper()
	want, told, wanted := x.words()
	got, o, code := x.do()
	if code != wanted || !sameChanges(o.Changes, told.Changes) || !slices.Equal(o.Fired, told.Fired) {
		t.Errorf("Execute %s%s, fired %v, changes %.900s\nwant %s, fired %v, changes %.900s", x.shown(), impl.CodeWord(code), o.Fired, shownChanges(o.Changes), impl.CodeWord(wanted), told.Fired, shownChanges(told.Changes))
	}
	if !sameData(got, want) {
		t.Errorf("Execute %s%.900s\nwant %.900s", x.shown(), shownData(got), shownData(want))
	}
	return want, told, wanted
}

// wantTried asks for changes, rules that fired and a code that are told here, too; data are those that the changes lead to.
func wantTried(t *testing.T, x tried, list []impl.Change, fired string, wanted int) {
	t.Helper()
	data, o, code := wantExecuted(t, x)
	if code != wanted || !sameChanges(o.Changes, list) || !slices.Equal(o.Fired, strings.Fields(fired)) {
		t.Errorf("%sby the words %s, fired %v, changes %.900s", x.shown(), impl.CodeWord(code), o.Fired, shownChanges(o.Changes))
	}
	s := shelfOf(x.list, x.data)
	for _, c := range list {
		s.do(c)
	}
	if !sameData(data, s.data()) {
		t.Errorf("%sby the words %.900s, by its changes %.900s", x.shown(), shownData(data), shownData(s.data()))
	}
}

// cloneRules has nil for lists that are empty, as these are the same.
func cloneRules(list []impl.Rule) []impl.Rule {
	var made []impl.Rule
	for _, r := range list {
		r.When = cloneTree(r.When)
		r.Exprs = cloneTree(impl.Tree{Kids: r.Exprs}).Kids
		r.Sets = append([]impl.Setting(nil), r.Sets...)
		for i, set := range r.Sets {
			r.Sets[i].Expr = cloneTree(set.Expr)
		}
		made = append(made, r)
	}
	return made
}

func cloneChanges(list []impl.Change) []impl.Change {
	var made []impl.Change
	for _, c := range list {
		c.Old, c.New = append([]impl.Value(nil), c.Old...), append([]impl.Value(nil), c.New...)
		made = append(made, c)
	}
	return made
}

func sameRules(a, b []impl.Rule) bool { return reflect.DeepEqual(cloneRules(a), cloneRules(b)) }
