package tests

import (
	"fmt"
	"maps"
	"slices"
	"strings"
	"testing"

	"loop.example/g00208/impl"
)

// cell is what a key has; one that is not there has none.
type cell struct {
	value string
	there bool
}

// viewer is a transaction with what was committed when it began, as a copy that nobody changes.
type viewer struct {
	began int
	saw   map[string]string
	own   map[string]cell
}

func (v *viewer) look(key string) cell {
	if c, ok := v.own[key]; ok {
		return c
	}
	value, ok := v.saw[key]
	return cell{value, ok}
}

func (v *viewer) list(from, to string) []impl.Entry {
	seen := maps.Clone(v.saw)
	applyCells(seen, v.own)
	var list []impl.Entry
	for _, e := range entriesOf(seen) {
		if e.Key >= from && (to == "" || e.Key < to) {
			list = append(list, e)
		}
	}
	return list
}

func applyCells(all map[string]string, cells map[string]cell) {
	for key, c := range cells {
		if c.there {
			all[key] = c.value
		} else {
			delete(all, key)
		}
	}
}

// ledger keeps the whole of what was committed at each time, and no versions.
type ledger struct {
	states  []map[string]string
	touched map[string]int // when a key was last put, or taken away from where it was
	viewers [impl.MaxOpen]*viewer
}

func newLedger() *ledger {
	return &ledger{states: []map[string]string{{}}, touched: map[string]int{}}
}

func (l *ledger) now() int { return len(l.states) - 1 }

func (l *ledger) act(a impl.MvAct) impl.MvReply {
	switch {
	case a.Kind < 1 || a.Kind > 8:
		return impl.MvReply{Code: impl.ErrForm}
	case a.Kind == impl.MvVacuum:
		return impl.MvReply{}
	case a.Tx < 0 || a.Tx > 3:
		return impl.MvReply{Code: impl.ErrRange}
	case a.Kind == impl.MvBegin && l.viewers[a.Tx] != nil:
		return impl.MvReply{Code: impl.ErrTwice}
	case a.Kind == impl.MvBegin:
		l.viewers[a.Tx] = &viewer{began: l.now(), saw: maps.Clone(l.states[l.now()]), own: map[string]cell{}}
		return impl.MvReply{Time: l.now()}
	case l.viewers[a.Tx] == nil:
		return impl.MvReply{Code: impl.ErrClosed}
	}
	return l.actOf(l.viewers[a.Tx], a)
}

func (l *ledger) actOf(v *viewer, a impl.MvAct) impl.MvReply {
	if !fits(a) {
		return impl.MvReply{Code: impl.ErrBad}
	}
	_, mine := v.own[a.Key]
	switch a.Kind {
	case impl.MvRead:
		if c := v.look(a.Key); c.there {
			return impl.MvReply{Value: c.value}
		}
		return impl.MvReply{Code: impl.ErrNone}
	case impl.MvScan:
		return impl.MvReply{List: v.list(a.Key, a.To)}
	case impl.MvPut, impl.MvDrop:
		if !mine && len(v.own) == 8 {
			return impl.MvReply{Code: impl.ErrFull}
		}
		v.own[a.Key] = cell{}
		if a.Kind == impl.MvPut {
			v.own[a.Key] = cell{a.Value, true}
		}
		return impl.MvReply{}
	}
	l.viewers[a.Tx] = nil
	if a.Kind == impl.MvCommit {
		return l.commit(v)
	}
	return impl.MvReply{}
}

func fits(a impl.MvAct) bool {
	switch a.Kind {
	case impl.MvRead, impl.MvDrop:
		return a.Key != "" && len(a.Key) <= 80
	case impl.MvPut:
		return a.Key != "" && len(a.Key) <= 80 && len(a.Value) <= 200
	case impl.MvScan:
		return len(a.Key) <= 80 && len(a.To) <= 80
	}
	return true
}

func (l *ledger) commit(v *viewer) impl.MvReply {
	if len(v.own) == 0 {
		return impl.MvReply{Time: v.began}
	}
	for key := range v.own {
		if l.touched[key] > v.began {
			return impl.MvReply{Code: impl.ErrConflict}
		}
	}
	next := maps.Clone(l.states[l.now()])
	for key, c := range v.own {
		if _, there := next[key]; there || c.there {
			l.touched[key] = l.now() + 1
		}
	}
	applyCells(next, v.own)
	l.states = append(l.states, next)
	return impl.MvReply{Time: l.now()}
}

// oldest is the least time that somebody may still ask for.
func (l *ledger) oldest() int {
	least := l.now()
	for _, v := range l.viewers {
		if v != nil {
			least = min(least, v.began)
		}
	}
	return least
}

// rolledMv are acts on few keys, so that transactions meet, or on more that are rarely committed; some of them go wrong.
func rolledMv(d *dice, count int) []impl.MvAct {
	keys := []string{"a", "b", "c", "d", "a\x00", "\xff"}
	patient := d.below(4) == 0
	if patient {
		keys = append(keys, "e", "f", "g", "h", "i", "j", "k", "l")
	}
	key := func() string { return keys[d.below(len(keys))] }
	var acts []impl.MvAct
	for i := range count {
		a := impl.MvAct{Tx: d.below(4), Key: key(), Value: fmt.Sprint(i)}
		switch n := d.below(40); {
		case n < 7:
			a.Kind = impl.MvBegin
		case n < 17:
			a.Kind = impl.MvPut
		case n < 21:
			a.Kind = impl.MvDrop
		case n < 26:
			a.Kind = impl.MvRead
		case n < 30:
			a.Kind = impl.MvScan
			a.Key, a.To = []string{"", key()}[d.below(2)], []string{"", key()}[d.below(2)]
		case n < 35 && patient && d.below(9) > 0:
			a.Kind = impl.MvPut
		case n < 35:
			a.Kind = impl.MvCommit
		case n < 36:
			a.Kind = impl.MvAbort
		case n < 38:
			a.Kind = impl.MvVacuum
		case n < 39:
			a = someMvActs()[d.below(14*14)]
		default:
			a.Kind, a.Key = impl.MvRead+d.below(4), ""
		}
		acts = append(acts, a)
	}
	return acts
}

// What a sweep tells is how many versions there are less; the ledger has none, so it is not asked.
func sameButSweeps(a impl.MvAct, got, want impl.MvReply) bool {
	if a.Kind == impl.MvVacuum {
		got.Time = 0
	}
	return sameMv(got, want)
}

func TestRunsGoAsTheLedgerTells(t *testing.T) {
	d := &dice{state: 21}
	codes := map[int]int{}
	for round := range 500 {
		acts := rolledMv(d, d.below(impl.MaxScript+1))
		b, replies, c := impl.MvRun(acts)
		code(t, "MvRun", c, impl.OK)
		l := newLedger()
		swept := 0
		for i, a := range acts {
			want := l.act(a)
			codes[want.Code]++
			if !sameButSweeps(a, replies[i], want) {
				t.Fatalf("run %d, act %d %v: %v, want %v", round, i, a, replies[i], want)
			}
			if a.Kind == impl.MvVacuum {
				swept = l.oldest()
			}
		}
		checkLedger(t, b, l, swept)
	}
	for _, want := range []int{impl.OK, impl.ErrForm, impl.ErrRange, impl.ErrNone, impl.ErrFull, impl.ErrBad, impl.ErrTwice, impl.ErrClosed, impl.ErrConflict} {
		if codes[want] < 50 {
			t.Error("the runs have few replies of code", impl.CodeWord(want), codes[want])
		}
	}
}

// checkLedger looks at all times from the last sweep's on.
func checkLedger(t *testing.T, b impl.Base, l *ledger, from int) {
	t.Helper()
	n, c := impl.Horizon(b)
	if !impl.BaseOK(b) || b.Time != l.now() || n != l.oldest() || c != impl.OK {
		t.Fatalf("a base of time %d, horizon %d, want %d and %d", b.Time, n, l.now(), l.oldest())
	}
	for time := from; time <= l.now(); time++ {
		list, c := impl.ListAt(b, time)
		if c != impl.OK || !slices.Equal(list, entriesOf(l.states[time])) {
			t.Fatalf("at %d %v is seen, want %v", time, list, l.states[time])
		}
		for _, key := range []string{"a", "b", "c", "e", "z"} {
			value, c := impl.ValueAt(b, time, key)
			want, there := l.states[time][key]
			if value != want || (c == impl.OK) != there {
				t.Fatalf("at %d %q of %q is seen (%d), want %q", time, value, key, c, want)
			}
		}
	}
}

// A base grows step by step far beyond a run's length, to the last time there is.
func TestStepsUpToTheLastTime(t *testing.T) {
	d := &dice{state: 8}
	b, l := impl.NewBase(), newLedger()
	full := 0
	for full < 3 {
		for _, a := range rolledMv(d, 100) {
			next, reply, c := impl.MvStep(b, a)
			code(t, "MvStep", c, impl.OK)
			if reply.Code == impl.ErrFull && a.Kind == impl.MvCommit {
				if b.Time != impl.MaxTime {
					t.Fatal("full at", b.Time, len(b.Versions))
				}
				full++
				l.viewers[a.Tx] = nil
			} else if want := l.act(a); !sameButSweeps(a, reply, want) {
				t.Fatalf("at %d %v: %v, want %v", b.Time, a, reply, want)
			}
			b = next
		}
	}
	checkLedger(t, b, l, l.oldest())
	if b.Time != impl.MaxTime {
		t.Error("time", b.Time)
	}
}

// Whatever the others do between, each look of one finds what it found first, with its own writes over it.
func TestLooksHangOnTheBeginningAlone(t *testing.T) {
	d := &dice{state: 13}
	moved := 0
	for round := range 300 {
		b := impl.NewBase()
		step := func(a impl.MvAct) impl.MvReply {
			next, reply, c := impl.MvStep(b, a)
			code(t, "MvStep", c, impl.OK)
			b = next
			return reply
		}
		others := func(count int) {
			for _, a := range rolledMv(d, count) {
				if a.Tx != 0 || a.Kind == impl.MvVacuum {
					step(a)
				}
			}
		}
		others(60)
		at := step(mv("begin 0")).Time
		seen := map[string]string{}
		list, _ := impl.ListAt(b, b.Time)
		for _, e := range list {
			seen[e.Key] = e.Value
		}
		for i := range 12 {
			others(10)
			key := string(rune('a' + d.below(6)))
			switch d.below(3) {
			case 0:
				if step(impl.MvAct{Kind: impl.MvPut, Key: key, Value: fmt.Sprint("own", i)}).Code == impl.OK {
					seen[key] = fmt.Sprint("own", i)
				}
			case 1:
				if step(impl.MvAct{Kind: impl.MvDrop, Key: key}).Code == impl.OK {
					delete(seen, key)
				}
			}
			if reply := step(mv("scan 0 - -")); !slices.Equal(reply.List, entriesOf(seen)) {
				t.Fatalf("round %d: %v is seen from %d on, want %v", round, reply.List, at, seen)
			}
			value, there := seen[key]
			if reply := step(impl.MvAct{Kind: impl.MvRead, Key: key}); reply.Value != value || (reply.Code == impl.OK) != there {
				t.Fatalf("round %d: %v of %q is seen from %d on, want %q", round, reply, key, at, value)
			}
		}
		if b.Time > at {
			moved++
		}
	}
	if moved < 250 {
		t.Error("the others hardly committed:", moved)
	}
}

// Two are open at once; what each of them does to the key x that is there, or to the key y that is not.
func TestTheFirstCommits(t *testing.T) {
	does := []string{"put %d x new", "drop %d x", "read %d x", "put %d y new", "read %d y", "put %d x -", "scan %d - -"}
	writtenBy := func(act string) string {
		if strings.HasPrefix(act, "put") || strings.HasPrefix(act, "drop") {
			return strings.Fields(act)[2]
		}
		return ""
	}
	for _, one := range does {
		for _, other := range does {
			for _, between := range []string{"sweep", "begin 2", "begin 1", "commit 3"} {
				b := play(t, impl.NewBase(), "begin 3: -", "put 3 x old: -", "commit 3: @1", "begin 0: @1", "begin 1: @1")
				b, _, _ = impl.MvStep(b, mv(fmt.Sprintf(one, 0)))
				b, _, _ = impl.MvStep(b, mv(fmt.Sprintf(other, 1)))
				b, first, _ := impl.MvStep(b, mv("commit 0"))
				b, _, _ = impl.MvStep(b, mv(between))
				list, _ := impl.ListAt(b, b.Time)
				b, second, _ := impl.MvStep(b, mv("commit 1"))
				meet := writtenBy(one) != "" && writtenBy(one) == writtenBy(other)
				what := fmt.Sprintf("%s, then %s, %s between", one, other, between)
				code(t, what+": the first", first.Code, impl.OK)
				code(t, what+": the second", second.Code, map[bool]int{true: impl.ErrConflict}[meet])
				after, _ := impl.ListAt(b, b.Time)
				if meet && !slices.Equal(after, list) {
					t.Error(what, "the second left", after)
				}
				if b.Txs[0].Open || b.Txs[1].Open {
					t.Error(what, "one is open still")
				}
			}
		}
	}
}

func TestConflictsByTime(t *testing.T) {
	// One that began behind the commit has no conflict; one that began ahead of it has, however often the key came and went since.
	b := play(t, impl.NewBase(), "begin 0: -", "begin 1: -", "begin 2: -", "put 0 a 1: -", "put 1 a 2: -", "drop 2 a: -", "commit 0: @1", "begin 0: @1", "put 0 a 3: -", "commit 1: conflict",
		"commit 0: @2", "begin 0: @2", "drop 0 a: -", "commit 0: @3", "sweep: -", "commit 2: conflict", "sweep: @2")
	wantBase(t, b, base(3, nil))
	// A key that was taken away since is in conflict though no version of it is seen any more.
	b = play(t, b, "begin 0: @3", "put 0 a 1: -", "commit 0: @4", "begin 1: @4", "begin 0: @4", "drop 0 a: -", "commit 0: @5", "put 1 a 2: -", "read 1 a: '2'", "sweep: -", "commit 1: conflict", "sweep: @1")
	// One that aborts, or fails, is in nobody's way; nor is one that took away what was not there.
	b = play(t, b, "begin 0: @5", "begin 1: @5", "begin 2: @5", "begin 3: @5", "put 0 a 1: -", "put 1 a 2: -", "drop 2 a: -", "put 3 b 1: -", "abort 0: -", "commit 2: @6", "commit 1: @7", "commit 3: @8")
	wantBase(t, b, base(8, versions(version("a", 7, 0, "2"), version("b", 8, 0, "1"))))
	// Of several keys one is enough.
	play(t, b, "begin 0: @8", "begin 1: @8", "put 0 b 2: -", "put 1 a 5: -", "put 1 b 3: -", "put 1 c 5: -", "commit 0: @9", "commit 1: conflict", "begin 1: @9", "scan 1 - -: a=2 b=2")
	// A version that ended at Snap, or began then, is none that came later.
	old := base(5, versions(version("a", 2, 5, ""), version("b", 5, 0, ""), version("c", 2, 4, "")), opentx(5, wrote("a", "1"), wrote("b", "1"), wrote("c", "1")), opentx(4, wrote("a", "")), opentx(4, wrote("b", "")), opentx(4, wrote("c", "")))
	for tx, want := range []string{"@6", "conflict", "conflict", "@6"} {
		play(t, old, fmt.Sprintf("commit %d: %s", tx, want))
	}
}

// rolledBase is a right one, though no run may lead to it.
func rolledBase(d *dice) impl.Base {
	b := base(d.below(9), nil)
	for _, key := range []string{"a", "b", "c", "d"} {
		for begin := 1 + d.below(4); begin <= b.Time; begin += 1 + d.below(2) {
			end := begin + 1 + d.below(3)
			if end > b.Time || d.below(5) == 0 {
				b.Versions = append(b.Versions, version(key, begin, 0, fmt.Sprint(key, begin)))
				break
			}
			b.Versions = append(b.Versions, version(key, begin, end, fmt.Sprint(key, begin)))
			begin = end - d.below(2)
		}
	}
	for tx := range b.Txs {
		if d.below(2) == 0 {
			continue
		}
		b.Txs[tx] = opentx(d.below(b.Time + 1))
		for _, key := range []string{"a", "b", "e"} {
			switch d.below(4) {
			case 0:
				b.Txs[tx].Writes = append(b.Txs[tx].Writes, gone(key))
			case 1:
				b.Txs[tx].Writes = append(b.Txs[tx].Writes, wrote(key, "own"))
			}
		}
	}
	return b
}

func TestSweepsChangeNothingThatIsSeen(t *testing.T) {
	d := &dice{state: 34}
	swept := 0
	for range 3000 {
		b := rolledBase(d)
		if !impl.BaseOK(b) {
			t.Fatal("a right base is not", b)
		}
		horizon, _ := impl.Horizon(b)
		next, reply, c := impl.MvStep(b, mv("sweep 7"))
		if c != impl.OK || reply.Code != impl.OK || reply.Time != len(b.Versions)-len(next.Versions) || !impl.BaseOK(next) {
			t.Fatalf("sweep of %v: %v, %v", b, next, reply)
		}
		swept += reply.Time
		for time := horizon; time <= b.Time; time++ {
			before, _ := impl.ListAt(b, time)
			after, c := impl.ListAt(next, time)
			if c != impl.OK || !slices.Equal(before, after) {
				t.Fatalf("sweep of %v: at %d %v was seen, now %v", b, time, before, after)
			}
		}
		for tx := range b.Txs {
			for _, a := range []string{"scan %d - -", "scan %d a c", "read %d a", "read %d c", "read %d e", "commit %d"} {
				_, before, _ := impl.MvStep(b, mv(fmt.Sprintf(a, tx)))
				_, after, _ := impl.MvStep(next, mv(fmt.Sprintf(a, tx)))
				if !sameMv(before, after) {
					t.Fatalf("sweep of %v: %s of %d was told %v, now %v", b, a, tx, before, after)
				}
			}
		}
		next.Versions = b.Versions
		wantBase(t, next, b)
	}
	if swept < 1000 {
		t.Error("hardly anything was swept:", swept)
	}
}

// committedBy tells by the document's words what a commit makes of any right base, whoever else is open.
func committedBy(b impl.Base, tx int) (impl.Base, impl.MvReply) {
	next, own := cloneBase(b), b.Txs[tx]
	next.Txs[tx] = impl.Tx{}
	for _, w := range own.Writes {
		for _, v := range b.Versions {
			if v.Key == w.Key && (v.Begin > own.Snap || v.End > own.Snap) {
				return next, impl.MvReply{Code: impl.ErrConflict}
			}
		}
	}
	if len(own.Writes) == 0 {
		return next, impl.MvReply{Time: own.Snap}
	}
	next.Time++
	for _, w := range own.Writes {
		for i, v := range next.Versions {
			if v.Key == w.Key && v.End == 0 {
				next.Versions[i].End = next.Time
			}
		}
		if !w.Gone {
			next.Versions = append(next.Versions, version(w.Key, next.Time, 0, w.Value))
		}
	}
	slices.SortFunc(next.Versions, func(a, b impl.Version) int {
		if a.Key != b.Key {
			return strings.Compare(a.Key, b.Key)
		}
		return a.Begin - b.Begin
	})
	return next, impl.MvReply{Time: next.Time}
}

func TestCommitsOfAnyBase(t *testing.T) {
	d := &dice{state: 55}
	codes := map[int]int{}
	for range 3000 {
		b := rolledBase(d)
		for tx := range b.Txs {
			if !b.Txs[tx].Open {
				continue
			}
			want, told := committedBy(b, tx)
			next, reply, c := impl.MvStep(b, impl.MvAct{Kind: impl.MvCommit, Tx: tx})
			code(t, "commit", c, impl.OK)
			codes[told.Code]++
			if !sameBase(next, want) || !sameMv(reply, told) || !impl.BaseOK(next) {
				t.Fatalf("commit %d of %v: %v %v, want %v %v", tx, b, next, reply, want, told)
			}
		}
	}
	if codes[impl.OK] < 500 || codes[impl.ErrConflict] < 500 {
		t.Error("codes", codes)
	}
}
