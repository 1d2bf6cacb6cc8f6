package tests

import (
	"fmt"
	"reflect"
	"slices"
	"strconv"
	"strings"
	"testing"

	"loop.example/g00208/impl"
)

const (
	manySectors = 256
	// room for what a few rows need, soon run on
	fewSectors = 40
	// the bytes that a seal adds to a dump
	sealAround = 10
)

// kindsOfCalls stand each at its kind's place.
var kindsOfCalls = []string{"", "begin", "sql", "commit", "abort", "catalog", "rule", "guard", "crash", "backup", "restore"}

// callOf is of words such as "sql 0 select id from cases", "create cases", "create t(a int) key 1", "column cases m int null = null",
// "rule" and "guard" with words as rule and guard take them, "crash", and "crash 0 3 101" with a session, a cut and flags.
func callOf(words string) impl.Call {
	kind, rest, _ := strings.Cut(words, " ")
	part := strings.Fields(rest)
	switch kind {
	case "sql":
		session, statement, _ := strings.Cut(rest, " ")
		return impl.Call{Kind: impl.EnSql, Session: wholeNumber(session), Text: statement}
	case "begin", "commit", "abort":
		return impl.Call{Kind: slices.Index(kindsOfCalls, kind), Session: wholeNumber(rest)}
	case "kind":
		return impl.Call{Kind: wholeNumber(part[0]), Session: wholeNumber(part[1]), Text: "select id from cases", Catalog: create(readTable("x(id int) key 1")), Cut: 9}
	case "rule":
		return impl.Call{Kind: impl.EnRule, Rule: rule(rest)}
	case "guard":
		return impl.Call{Kind: impl.EnGuard, Guard: guard(part[0], wholeNumber(part[1]), part[2:]...)}
	case "crash":
		return crashOf(part)
	case "backup", "restore":
		return impl.Call{Kind: slices.Index(kindsOfCalls, kind)}
	}
	return impl.Call{Kind: impl.EnCatalog, Catalog: catActOf(kind, rest)}
}

func crashOf(part []string) impl.Call {
	c := impl.Call{Kind: impl.EnCrash}
	if len(part) > 0 {
		c.Session, c.Cut = wholeNumber(part[0]), wholeNumber(part[1])
	}
	if len(part) > 2 {
		for _, flag := range part[2] {
			c.Keep = append(c.Keep, flag == '1')
		}
	}
	c.Keep = roomy(c.Keep, true)
	return c
}

func catActOf(kind, rest string) impl.CatAct {
	name, more, _ := strings.Cut(rest, " ")
	part := strings.Fields(more)
	switch kind {
	case "create":
		if x, found := tableNamed(ruledTables(), rest); found {
			return create(x)
		}
		return create(readTable(rest))
	case "drop":
		return drop(rest)
	case "index":
		var columns []int
		for _, at := range part[1:] {
			columns = append(columns, wholeNumber(at))
		}
		return addIndex(name, index(part[0], columns...))
	case "dropindex":
		return dropIndex(name, part[0])
	case "column":
		column, literal, _ := strings.Cut(more, " = ")
		return addColumn(name, col(column), one(literal)[0])
	}
	panic("no call: " + kind)
}

// readTable is a table of its text, with room behind its lists; none if that is none.
func readTable(t string) impl.Table {
	x, right := readByWords(t)
	if !right {
		return impl.Table{Name: t}
	}
	return roomyTable(x)
}

func wholeNumber(t string) int {
	n, err := strconv.Atoi(t)
	if err != nil {
		panic("no number: " + t)
	}
	return n
}

func callsOf(words ...string) []impl.Call {
	var list []impl.Call
	for _, w := range words {
		list = append(list, callOf(w))
	}
	return roomy(list, impl.Call{Kind: 77})
}

// shownCall is as callOf reads it, as far as it has words.
func shownCall(c impl.Call) string {
	switch c.Kind {
	case impl.EnSql:
		return fmt.Sprintf("sql %d %s", c.Session, c.Text)
	case impl.EnCatalog:
		return fmt.Sprintf("%.200s", fmt.Sprint("catalog ", c.Catalog))
	case impl.EnRule:
		return "rule " + shownRule(c.Rule)
	case impl.EnGuard:
		return "guard " + shownGuards([]impl.Guard{c.Guard})
	case impl.EnCrash:
		return fmt.Sprintf("crash %d cut %d keep %v", c.Session, c.Cut, c.Keep)
	case impl.EnBackup, impl.EnRestore:
		return kindsOfCalls[c.Kind]
	case impl.EnBegin, impl.EnCommit, impl.EnAbort:
		return fmt.Sprintf("%s %d", kindsOfCalls[c.Kind], c.Session)
	}
	return fmt.Sprintf("kind %d %d", c.Kind, c.Session)
}

func shownCalls(calls []impl.Call, replies []impl.CallReply) string {
	var b strings.Builder
	for i, c := range calls {
		fmt.Fprintf(&b, "\t%.200s", shownCall(c))
		if i < len(replies) {
			fmt.Fprintf(&b, " -> %.200s", shownReply(replies[i]))
		}
		b.WriteByte('\n')
	}
	return b.String()
}

// shownReply is such as "ok", "ok 2: 1, 'a'; 2, 'b'", "ok 3 log log", "syntax at 6".
func shownReply(r impl.CallReply) string {
	s := impl.CodeWord(r.Code)
	if r.Place != 0 {
		s += fmt.Sprint(" at ", r.Place)
	}
	if r.Count != 0 {
		s += fmt.Sprint(" ", r.Count)
	}
	for _, name := range r.Fired {
		s += " " + name
	}
	if len(r.Rows) > 0 {
		s += ": " + shown(r.Rows)
	}
	return s
}

func sameReply(a, b impl.CallReply) bool {
	return a.Code == b.Code && a.Place == b.Place && a.Count == b.Count && slices.Equal(a.Fired, b.Fired) && sameRows(a.Rows, b.Rows)
}

func sameReplies(a, b []impl.CallReply) bool { return slices.EqualFunc(a, b, sameReply) }

// cloneEngine has nil for lists that are empty, as these are the same.
func cloneEngine(e impl.Engine) impl.Engine {
	e.Tables, e.Data, e.Rules, e.Guards = cloneTables(e.Tables), plainData(e.Data), cloneRules(e.Rules), append([]impl.Guard(nil), e.Guards...)
	e.Changed, e.Disk, e.Saved = append([]int(nil), e.Changed...), cloneDisk(e.Disk), append([]string(nil), e.Saved...)
	for i, g := range e.Guards {
		e.Guards[i].Steps = append([]impl.Entry(nil), g.Steps...)
	}
	e.Sessions = append([]impl.Session(nil), e.Sessions...)
	for i, s := range e.Sessions {
		s.Data, s.Read, s.Wrote = plainData(s.Data), append([]string(nil), s.Read...), append([]string(nil), s.Wrote...)
		e.Sessions[i] = s
	}
	return e
}

// plainData has nil for lists of rows that are empty, too.
func plainData(data []impl.Data) []impl.Data {
	var made []impl.Data
	for _, d := range data {
		made = append(made, impl.Data{Name: d.Name, Rows: cloneRows(d.Rows)})
	}
	return made
}

func sameEngine(a, b impl.Engine) bool { return reflect.DeepEqual(cloneEngine(a), cloneEngine(b)) }

func shownEngine(e impl.Engine) string {
	var b strings.Builder
	fmt.Fprintf(&b, "\ttime %d, changed %v, data %.900s\n\trules %.300s\n\tguards %.300s\n", e.Time, e.Changed, shownData(e.Data), shownRules(e.Rules), shownGuards(e.Guards))
	for i, s := range e.Sessions {
		fmt.Fprintf(&b, "\tsession %d: open %v, since %d, read %v, wrote %v, data %.600s\n", i, s.Open, s.Since, s.Read, s.Wrote, shownData(s.Data))
	}
	for _, x := range e.Tables {
		b.WriteString("\t" + textByWords(x) + "\n")
	}
	fmt.Fprintf(&b, "\tsaved %d pieces, %d bytes, cache %d", len(e.Saved), len(strings.Join(e.Saved, "")), len(e.Disk.Cache))
	return b.String()
}

// entryOfLog is what was committed at a time.
type entryOfLog struct {
	time   int
	tables []string
}

// mind is an engine by the document's words. What is on its disk is remembered, not read.
type mind struct {
	impl.Engine
	log  []entryOfLog
	open impl.Opened
}

func newMind(sectors int) *mind {
	return &mind{Engine: impl.Engine{Disk: blank(sectors), Sessions: make([]impl.Session, 3)}}
}

// tablesByWords is what TablesRead is to answer.
func tablesByWords(n impl.Tree) ([]string, int) {
	if !impl.SqlOK(n) {
		return nil, impl.ErrBad
	}
	if letterOf(n) != 's' {
		return []string{n.Name}, impl.OK
	}
	var names []string
	for _, part := range partsOf(n, 'T') {
		if !slices.Contains(names, part.Name) {
			names = append(names, part.Name)
		}
	}
	return names, impl.OK
}

func (m *mind) do(c impl.Call) impl.CallReply {
	if c.Kind < 1 || c.Kind > 10 {
		return impl.CallReply{Code: impl.ErrForm}
	}
	somebody := slices.ContainsFunc(m.Sessions, func(s impl.Session) bool { return s.Open })
	switch kindsOfCalls[c.Kind] {
	case "begin", "sql", "commit", "abort":
		return m.ofSession(c)
	case "crash":
		return m.powerCut(c)
	case "backup":
		dump, _ := dumpByWords(m.Tables, m.Data)
		m.Saved, _ = chunksByWords(sealOf(dump))
		return impl.CallReply{Count: len(m.Saved)}
	}
	if somebody {
		return impl.CallReply{Code: impl.ErrConflict}
	}
	switch kindsOfCalls[c.Kind] {
	case "catalog":
		return impl.CallReply{Code: m.catalogStep(c.Catalog)}
	case "restore":
		list, data, code := endByWords(whole(strings.Join(m.Saved, "")))
		if code == impl.OK {
			code = m.saveAll(list, data)
		}
		return impl.CallReply{Code: code}
	}
	return impl.CallReply{Code: m.stand(c)}
}

// stand has a rule or a guard behind the others.
func (m *mind) stand(c impl.Call) int {
	isRule := kindsOfCalls[c.Kind] == "rule"
	switch {
	case isRule && !ruleByWords(c.Rule, m.Tables), !isRule && !guardByWords(c.Guard, m.Tables):
		return impl.ErrBad
	case isRule && len(m.Rules) >= 8, !isRule && len(m.Guards) >= 4:
		return impl.ErrFull
	case isRule:
		m.Rules = append(m.Rules, c.Rule)
	default:
		m.Guards = append(m.Guards, c.Guard)
	}
	return impl.OK
}

func (m *mind) ofSession(c impl.Call) impl.CallReply {
	if c.Session < 0 || c.Session > 2 {
		return impl.CallReply{Code: impl.ErrRange}
	}
	s := &m.Sessions[c.Session]
	begins := kindsOfCalls[c.Kind] == "begin"
	switch {
	case begins && s.Open:
		return impl.CallReply{Code: impl.ErrTwice}
	case !begins && !s.Open:
		return impl.CallReply{Code: impl.ErrClosed}
	}
	switch kindsOfCalls[c.Kind] {
	case "begin":
		*s = impl.Session{Open: true, Since: m.Time, Data: cloneData(m.Data)}
		return impl.CallReply{}
	case "sql":
		return m.statement(s, c.Text)
	}
	left := *s
	*s = impl.Session{}
	if kindsOfCalls[c.Kind] == "abort" {
		return impl.CallReply{}
	}
	data, acts, pages, code := m.toCommit(left)
	if len(acts) > 0 {
		m.saved(acts, pages)
		m.Data = data
		m.settle(left.Wrote)
	}
	return impl.CallReply{Code: code}
}

func (m *mind) statement(s *impl.Session, words string) impl.CallReply {
	n, code, place := impl.ParseSql(words)
	if code == impl.OK {
		_, code, place = checkedByWords(n, m.Tables)
	}
	if code != impl.OK {
		return impl.CallReply{Code: code, Place: place}
	}
	names, _ := tablesByWords(n)
	if letterOf(n) != 's' {
		for _, r := range m.Rules {
			names = append(names, r.Into)
		}
	}
	s.Read = onceEach(append(s.Read, names...))
	if letterOf(n) == 's' {
		rows, code := selectByWords(n, m.Tables, s.Data)
		return impl.CallReply{Code: code, Count: len(rows), Rows: rows}
	}
	data, told, code := executeByWords(n, m.Tables, s.Data, m.Rules, m.Guards, 50)
	if code != impl.OK {
		return impl.CallReply{Code: code}
	}
	s.Data = data
	for _, change := range told.Changes {
		s.Wrote = onceEach(append(s.Wrote, change.Table))
	}
	return impl.CallReply{Count: len(told.Changes), Fired: told.Fired}
}

// onceEach leaves the first of alike names, and no empty one.
func onceEach(names []string) []string {
	var left []string
	for i, name := range names {
		if name != "" && slices.Index(names, name) == i {
			left = append(left, name)
		}
	}
	return left
}

// toCommit has no acts where nothing is to be committed.
func (m *mind) toCommit(s impl.Session) ([]impl.Data, []impl.DiskAct, []int, int) {
	for _, name := range append(slices.Clone(s.Read), s.Wrote...) {
		_, there := tableNamed(m.Tables, name)
		later := slices.ContainsFunc(m.log, func(at entryOfLog) bool { return at.time > s.Since && slices.Contains(at.tables, name) })
		if !there || later {
			return nil, nil, nil, impl.ErrConflict
		}
	}
	if len(s.Wrote) == 0 {
		return nil, nil, nil, impl.OK
	}
	data := cloneData(m.Data)
	for i, d := range s.Data {
		if slices.Contains(s.Wrote, d.Name) {
			data[i] = d
		}
	}
	acts, pages, code := m.toSave(m.Tables, data)
	return data, acts, pages, code
}

// toSave answers the acts and the pages of a save.
func (m *mind) toSave(list []impl.Table, data []impl.Data) ([]impl.DiskAct, []int, int) {
	dump, code := dumpByWords(list, data)
	if code != impl.OK {
		panic("a dump of what is not right: " + shownData(data))
	}
	blob := string(sealOf(dump))
	var free []int
	for page := 2; page < len(m.Disk.Sure); page++ {
		if !slices.Contains(m.open.Pages, page) {
			free = append(free, page)
		}
	}
	need := len(piecesOf(blob))
	if len(blob) > 3000 || need > len(free) {
		return nil, nil, impl.ErrFull
	}
	return wantedActs(m.open.Epoch+1, free[:need], blob), free[:need], impl.OK
}

// saved does all acts of a save, which leave nothing in the cache.
func (m *mind) saved(acts []impl.DiskAct, pages []int) {
	m.open.Epoch++
	m.open.Pages = pages
	m.Disk = cloneDisk(m.Disk)
	for _, a := range acts {
		if a.Kind == impl.DkWrite {
			m.Disk.Sure[a.At] = a.Data
		}
	}
}

func (m *mind) settle(names []string) {
	m.Time++
	m.log = append(m.log, entryOfLog{m.Time, names})
	m.Changed = make([]int, len(m.Tables))
	for i, x := range m.Tables {
		for _, at := range m.log {
			if slices.Contains(at.tables, x.Name) {
				m.Changed[i] = at.time
			}
		}
	}
}

// settleAll has tables and data in place of what was there.
func (m *mind) settleAll(list []impl.Table, data []impl.Data) {
	m.Tables, m.Data = list, data
	var names []string
	for _, x := range list {
		names = append(names, x.Name)
	}
	m.settle(names)
	var rules []impl.Rule
	for _, r := range m.Rules {
		if ruleByWords(r, list) {
			rules = append(rules, r)
		}
	}
	var guards []impl.Guard
	for _, g := range m.Guards {
		if guardByWords(g, list) {
			guards = append(guards, g)
		}
	}
	m.Rules, m.Guards = rules, guards
}

func (m *mind) saveAll(list []impl.Table, data []impl.Data) int {
	acts, pages, code := m.toSave(list, data)
	if code != impl.OK {
		return code
	}
	m.saved(acts, pages)
	m.settleAll(list, data)
	return impl.OK
}

func (m *mind) catalogStep(a impl.CatAct) int {
	list, code := catalogByWords(m.Tables, a)
	if code != impl.OK {
		return code
	}
	var data []impl.Data
	for _, x := range list {
		d := impl.Data{Name: x.Name}
		if at := slices.IndexFunc(m.Data, func(old impl.Data) bool { return old.Name == x.Name }); at >= 0 {
			d.Rows = cloneRows(m.Data[at].Rows)
		}
		if a.Kind == impl.CaColumn && a.Name == x.Name {
			for i, r := range d.Rows {
				d.Rows[i] = append(r, a.Value)
			}
		}
		data = append(data, d)
	}
	return m.saveAll(list, data)
}

// powerCut leaves what afterPowerCut tells.
func (m *mind) powerCut(c impl.Call) impl.CallReply {
	var data []impl.Data
	var acts []impl.DiskAct
	var pages []int
	if c.Cut > 0 && c.Session >= 0 && c.Session < 3 && m.Sessions[c.Session].Open {
		data, acts, pages, _ = m.toCommit(m.Sessions[c.Session])
	}
	done := max(0, min(c.Cut, len(acts)))
	before, after := m.open, impl.Opened{Epoch: m.open.Epoch + 1, Pages: pages}
	m.Disk = cutDisk(m.Disk, acts[:done], c.Keep)
	m.Sessions = make([]impl.Session, 3)
	m.open = before
	if len(acts) > 0 {
		m.open = afterPowerCut(done, len(acts), c.Keep, before, after)
	}
	if m.open.Epoch == before.Epoch {
		data = m.Data
	}
	m.settleAll(m.Tables, data)
	return impl.CallReply{Count: done}
}

// cutDisk is a disk behind some acts and a power cut.
func cutDisk(d impl.Disk, acts []impl.DiskAct, keep []bool) impl.Disk {
	d = cloneDisk(d)
	var waiting []impl.DiskAct
	for _, a := range acts {
		if a.Kind == impl.DkWrite {
			waiting = append(waiting, a)
			continue
		}
		for _, w := range waiting {
			d.Sure[w.At] = w.Data
		}
		waiting = nil
	}
	for i, w := range waiting {
		if i < len(keep) && keep[i] {
			d.Sure[w.At] = w.Data
		}
	}
	return d
}

// boundsByWords is the code of calls, of EngineRun and SerialRun.
func boundsByWords(sectors int, calls []impl.Call) int {
	long := len(calls) > 4096
	for _, c := range calls {
		long = long || len(c.Keep) > 4096 || len(c.Text) > 65536 || len(c.Catalog.Name) > 65536
	}
	switch {
	case long:
		return impl.ErrLong
	case len(calls) > 60:
		return impl.ErrMany
	case sectors < 4 || sectors > 256:
		return impl.ErrRange
	}
	return impl.OK
}

// runByMind is what EngineRun is to answer.
func runByMind(sectors int, calls []impl.Call) (impl.Engine, []impl.CallReply, int) {
	if code := boundsByWords(sectors, calls); code != impl.OK {
		return impl.Engine{}, nil, code
	}
	m := newMind(sectors)
	var replies []impl.CallReply
	for _, c := range calls {
		replies = append(replies, m.do(c))
	}
	return m.Engine, replies, impl.OK
}

// serialByMind is what SerialRun is to answer: what a session was asked is held back until it commits.
func serialByMind(sectors int, calls []impl.Call) ([]impl.CallReply, int) {
	_, replies, code := runByMind(sectors, calls)
	if code != impl.OK {
		return nil, code
	}
	m := newMind(sectors)
	answers := slices.Clone(replies)
	held := map[int][]int{}
	for i, c := range calls {
		ends := false
		switch {
		case c.Kind < 1 || c.Kind > 10:
			continue
		case c.Kind <= impl.EnAbort:
			held[c.Session] = append(held[c.Session], i)
			ends = c.Kind == impl.EnCommit && replies[i].Code == impl.OK
			if c.Kind == impl.EnBegin && replies[i].Code == impl.OK {
				held[c.Session] = []int{i}
			}
		case replies[i].Code != impl.OK:
			continue
		case c.Kind == impl.EnCrash && replies[i].Count > 0:
			held[c.Session] = append(held[c.Session], i)
			ends = true
		default:
			answers[i] = m.do(c)
		}
		if ends {
			for _, at := range held[c.Session] {
				answers[at] = m.do(calls[at])
			}
		}
	}
	return answers, impl.OK
}

// storedByWords is what StoredState is to answer.
func storedByWords(d impl.Disk) ([]impl.Table, []impl.Data, int) {
	open, code := impl.OpenStore(d)
	if code != impl.OK || open.Epoch == 0 {
		return nil, nil, code
	}
	if dump, code := openByWords([]byte(open.Blob)); code == impl.OK {
		return loadByWords(dump)
	}
	return nil, nil, impl.ErrForm
}

func wantStored(t *testing.T, what string, d impl.Disk, list []impl.Table, data []impl.Data, wanted int) {
	t.Helper()
	words, rows, by := storedByWords(d)
	wantBacked(t, what+": stored by the words", words, rows, by, list, data, wanted)
	got, rows, c := impl.StoredState(d)
	wantBacked(t, what+": StoredState", got, rows, c, list, data, wanted)
}

// wantEngine runs calls, by the words too, and one transaction behind the other; what is committed is on the disk.
func wantEngine(t *testing.T, sectors int, calls []impl.Call) (impl.Engine, []impl.CallReply) {
	t.Helper()
	want, told, wanted := runByMind(sectors, calls)
	e, replies, c := impl.EngineRun(sectors, calls)
	code(t, "EngineRun", c, wanted)
	if !sameReplies(replies, told) {
		t.Errorf("EngineRun on %d sectors of\n%.4000swant\n%.4000s", sectors, shownCalls(calls, replies), shownCalls(calls, told))
	}
	if !sameEngine(e, want) {
		t.Errorf("EngineRun on %d sectors of\n%.4000sis\n%.3000s\nwant\n%.3000s", sectors, shownCalls(calls, nil), shownEngine(e), shownEngine(want))
	}
	serial, by := serialByMind(sectors, calls)
	code(t, "one by one, by the words", by, wanted)
	got, c := impl.SerialRun(sectors, calls)
	code(t, "SerialRun", c, wanted)
	if !sameReplies(got, serial) || !sameReplies(got, replies) {
		t.Errorf("SerialRun on %d sectors of\n%.4000sby the words\n%.4000sby the engine\n%.4000s", sectors, shownCalls(calls, got), shownCalls(calls, serial), shownCalls(calls, replies))
	}
	if wanted == impl.OK {
		wantStored(t, "behind calls", e.Disk, e.Tables, e.Data, impl.OK)
	}
	return e, replies
}

// wantScript has calls with what each is to be told, such as "commit 0 -> conflict"; without an arrow it is "ok".
func wantScript(t *testing.T, sectors int, script ...string) impl.Engine {
	t.Helper()
	var words, wanted []string
	for _, line := range script {
		call, reply, found := strings.Cut(line, " -> ")
		if !found {
			reply = "ok"
		}
		words, wanted = append(words, call), append(wanted, reply)
	}
	calls := callsOf(words...)
	e, replies := wantEngine(t, sectors, calls)
	for i, r := range replies {
		if got := shownReply(r); got != wanted[i] {
			t.Errorf("call %d, %s: %s, want %s; all of them\n%s", i, words[i], got, wanted[i], shownCalls(calls, replies))
		}
	}
	return e
}
