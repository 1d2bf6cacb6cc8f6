package tests

import (
	"fmt"
	"math"
	"slices"
	"strings"
	"testing"

	"loop.example/g00208/impl"
)

// play runs lines of an act, ": ", and what is told of it.
func play(t *testing.T, b impl.Base, lines ...string) impl.Base {
	t.Helper()
	for i, line := range lines {
		act, want, _ := strings.Cut(line, ": ")
		next, reply, c := impl.MvStep(b, mv(act))
		code(t, line, c, impl.OK)
		if got := showMv(reply); got != want {
			t.Fatalf("line %d, %s is told, but %s", i, line, got)
		}
		if !impl.BaseOK(next) {
			t.Fatalf("line %d, %s: the base is not right: %v", i, line, next)
		}
		b = next
	}
	return b
}

func wantBase(t *testing.T, got, want impl.Base) {
	t.Helper()
	if !sameBase(got, want) {
		t.Errorf("base %.400v, want %.400v", got, want)
	}
}

func TestActsOfOne(t *testing.T) {
	b := play(t, impl.NewBase(), "begin 2: -", "read 2 a: none", "scan 2 - -: -", "put 2 b 1: -", "put 2 a 2: -", "read 2 a: '2'", "scan 2 - -: a=2 b=1", "drop 2 c: -", "read 2 c: none")
	wantBase(t, b, base(0, nil, impl.Tx{}, impl.Tx{}, opentx(0, wrote("a", "2"), wrote("b", "1"), gone("c"))))
	b = play(t, b, "commit 2: @1", "commit 2: closed")
	wantBase(t, b, base(1, versions(version("a", 1, 0, "2"), version("b", 1, 0, "1"))))
	b = play(t, b, "begin 0: @1", "read 0 a: '2'", "drop 0 a: -", "read 0 a: none", "scan 0 - -: b=1", "put 0 a 3: -", "scan 0 - -: a=3 b=1", "drop 0 b: -", "put 0 b -: -", "read 0 b: -", "drop 0 b: -")
	wantBase(t, b, base(1, versions(version("a", 1, 0, "2"), version("b", 1, 0, "1")), opentx(1, wrote("a", "3"), gone("b"))))
	b = play(t, b, "commit 0: @2")
	wantBase(t, b, base(2, versions(version("a", 1, 2, "2"), version("a", 2, 0, "3"), version("b", 1, 2, "1"))))
	b = play(t, b, "begin 3: @2", "put 3 b 4: -", "put 3 a 3: -", "commit 3: @3")
	wantBase(t, b, base(3, versions(version("a", 1, 2, "2"), version("a", 2, 3, "3"), version("a", 3, 0, "3"), version("b", 1, 2, "1"), version("b", 3, 0, "4"))))
	b = play(t, b, "begin 1: @3", "put 1 a 9: -", "drop 1 b: -", "abort 1: -", "abort 1: closed", "read 1 a: closed", "sweep: @3", "sweep 9: -")
	wantBase(t, b, base(3, versions(version("a", 3, 0, "3"), version("b", 3, 0, "4"))))
}

func TestScans(t *testing.T) {
	b := base(7, fewVersions(), opentx(4, wrote("b", "own"), gone("c"), wrote("e", "e0")), opentx(0, wrote("\x00", "first")), opentx(7))
	b = play(t, b, "scan 0 - -: a=a1 b=own e=e0", "scan 0 b -: b=own e=e0", "scan 0 b b: -", "scan 0 b a: -", "scan 0 b aa: -", "scan 0 aa c: b=own", "scan 0 - b: a=a1", "scan 0 - e: a=a1 b=own",
		"scan 0 - ee: a=a1 b=own e=e0", "scan 0 e e: -", "scan 0 e f: e=e0", "scan 0 f -: -", "scan 0 a a: -", "scan 0 - a: -", "scan 0 z a: -",
		"scan 1 - -: \x00=first", "scan 1 a -: -", "scan 2 - -: a=a1 b= d=d7", "scan 2 b d: b=", "scan 2 b da: b= d=d7", "scan 2 c -: d=d7")
	long := strings.Repeat("\xff", impl.MaxKey)
	b.Txs[2].Writes = []impl.Write{wrote(long, "last")}
	for _, c := range []struct {
		key, to, want string
	}{
		{long, "", long + "=last"}, {long, long, "-"}, {"d", long, "d=d7"}, {"", long, "a=a1 b= d=d7"}, {long + "\xff", "", "bad"}, {"", long + "\xff", "bad"}, {"z", long + "\xff", "bad"},
	} {
		_, reply, got := impl.MvStep(b, impl.MvAct{Kind: impl.MvScan, Tx: 2, Key: c.key, To: c.to})
		code(t, "scan", got, impl.OK)
		if showMv(reply) != c.want {
			t.Errorf("scan %q %q: %s, want %s", c.key, c.to, showMv(reply), c.want)
		}
	}
}

// A scan tells more than a base may have, if what is written comes on top of it.
func TestScanOfAFullBase(t *testing.T) {
	b := base(1, manyVersions(impl.MaxList), opentx(1, manyWrites(impl.MaxWrites)...))
	_, reply, c := impl.MvStep(b, mv("scan 0 - -"))
	if c != impl.OK || len(reply.List) != impl.MaxList+impl.MaxWrites || reply.List[0].Key != "k0000" || reply.List[impl.MaxList+7].Key != "w7" {
		t.Error("scan", len(reply.List), reply.Code, c)
	}
}

func TestWritesAreBounded(t *testing.T) {
	b := play(t, impl.NewBase(), "begin 0: -")
	for _, key := range []string{"h", "b", "f", "d", "a", "g", "c"} {
		b = play(t, b, "put 0 "+key+" 1: -")
	}
	b = play(t, b, "drop 0 e: -", "put 0 i 1: full", "drop 0 i: full", "put 0 aa 1: full", "drop 0 - -: bad", "put 0 a 2: -", "drop 0 h: -", "put 0 e 3: -", "drop 0 e: -", "read 0 i: none")
	want := []impl.Write{wrote("a", "2"), wrote("b", "1"), wrote("c", "1"), wrote("d", "1"), gone("e"), wrote("f", "1"), wrote("g", "1"), gone("h")}
	wantBase(t, b, base(0, nil, opentx(0, want...)))
	b = play(t, b, "begin 1: -", "put 1 i 1: -", "commit 0: @1")
	if len(b.Versions) != 6 {
		t.Error("versions of eight writes", b.Versions)
	}
}

// Codes in their order: each act is wrong for all reasons that stand behind the one that is told.
func TestOrderOfMvCodes(t *testing.T) {
	long, wide := strings.Repeat("k", impl.MaxKey+1), strings.Repeat("v", impl.MaxDatum+1)
	b := base(impl.MaxTime, versions(version("a", impl.MaxTime, 0, "x")), opentx(3, manyWrites(impl.MaxWrites)...), impl.Tx{}, opentx(3, wrote("a", "y")), opentx(3, wrote("b", "y")))
	for _, c := range []struct {
		a    impl.MvAct
		want int
	}{
		{impl.MvAct{Kind: 0, Tx: -1, Key: long}, impl.ErrForm}, {impl.MvAct{Kind: 9, Tx: 9, Key: long}, impl.ErrForm}, {impl.MvAct{Kind: -1}, impl.ErrForm},
		{impl.MvAct{Kind: math.MinInt, Tx: math.MinInt}, impl.ErrForm}, {impl.MvAct{Kind: math.MaxInt}, impl.ErrForm}, {impl.MvAct{Kind: 1<<32 + impl.MvBegin, Tx: 1}, impl.ErrForm},
		{impl.MvAct{Kind: impl.MvBegin, Tx: 4}, impl.ErrRange}, {impl.MvAct{Kind: impl.MvBegin, Tx: -1}, impl.ErrRange}, {impl.MvAct{Kind: impl.MvRead, Tx: 4, Key: long}, impl.ErrRange},
		{impl.MvAct{Kind: impl.MvScan, Tx: math.MaxInt, To: long}, impl.ErrRange}, {impl.MvAct{Kind: impl.MvPut, Tx: math.MinInt, Value: wide}, impl.ErrRange},
		{impl.MvAct{Kind: impl.MvDrop, Tx: -1}, impl.ErrRange}, {impl.MvAct{Kind: impl.MvCommit, Tx: 1 << 32}, impl.ErrRange}, {impl.MvAct{Kind: impl.MvAbort, Tx: 5}, impl.ErrRange},
		{impl.MvAct{Kind: impl.MvBegin, Tx: 0}, impl.ErrTwice}, {impl.MvAct{Kind: impl.MvBegin, Tx: 3, Key: long}, impl.ErrTwice},
		{impl.MvAct{Kind: impl.MvRead, Tx: 1}, impl.ErrClosed}, {impl.MvAct{Kind: impl.MvScan, Tx: 1, Key: long}, impl.ErrClosed}, {impl.MvAct{Kind: impl.MvPut, Tx: 1, Key: long}, impl.ErrClosed},
		{impl.MvAct{Kind: impl.MvDrop, Tx: 1}, impl.ErrClosed}, {impl.MvAct{Kind: impl.MvCommit, Tx: 1}, impl.ErrClosed}, {impl.MvAct{Kind: impl.MvAbort, Tx: 1}, impl.ErrClosed},
		{impl.MvAct{Kind: impl.MvRead, Tx: 0}, impl.ErrBad}, {impl.MvAct{Kind: impl.MvRead, Tx: 0, Key: long}, impl.ErrBad}, {impl.MvAct{Kind: impl.MvScan, Tx: 0, Key: long}, impl.ErrBad},
		{impl.MvAct{Kind: impl.MvScan, Tx: 0, To: long}, impl.ErrBad}, {impl.MvAct{Kind: impl.MvPut, Tx: 0, Value: "x"}, impl.ErrBad}, {impl.MvAct{Kind: impl.MvPut, Tx: 0, Key: long}, impl.ErrBad},
		{impl.MvAct{Kind: impl.MvPut, Tx: 0, Key: "new", Value: wide}, impl.ErrBad}, {impl.MvAct{Kind: impl.MvDrop, Tx: 0, Key: long}, impl.ErrBad}, {impl.MvAct{Kind: impl.MvDrop, Tx: 0}, impl.ErrBad},
		{impl.MvAct{Kind: impl.MvRead, Tx: 0, Key: "a"}, impl.ErrNone}, {impl.MvAct{Kind: impl.MvPut, Tx: 0, Key: "a"}, impl.ErrFull}, {impl.MvAct{Kind: impl.MvDrop, Tx: 0, Key: long[1:]}, impl.ErrFull},
	} {
		next, reply, got := impl.MvStep(b, c.a)
		code(t, fmt.Sprintf("step %.100v", c.a), got, impl.OK)
		if !sameMv(reply, impl.MvReply{Code: c.want}) || !sameBase(next, b) {
			t.Errorf("%.100v: %v, want %s, and the base as it was", c.a, reply, impl.CodeWord(c.want))
		}
	}
	for tx, want := range []int{impl.ErrFull, impl.ErrClosed, impl.ErrConflict, impl.ErrFull} {
		next, reply, _ := impl.MvStep(b, impl.MvAct{Kind: impl.MvCommit, Tx: tx})
		after := cloneBase(b)
		after.Txs[tx] = impl.Tx{}
		if !sameMv(reply, impl.MvReply{Code: want}) || !sameBase(next, after) {
			t.Error("commit", tx, reply, "want", impl.CodeWord(want))
		}
	}
}

func TestTextsOfActs(t *testing.T) {
	key, value := strings.Repeat("k", impl.MaxKey), strings.Repeat("v", impl.MaxDatum)
	b := base(0, nil, opentx(0))
	wide := impl.MvAct{Kind: impl.MvPut, Key: key, Value: value}
	next, reply, _ := impl.MvStep(b, wide)
	wantBase(t, next, base(0, nil, opentx(0, wrote(key, value))))
	if _, back, _ := impl.MvStep(next, impl.MvAct{Kind: impl.MvRead, Key: key}); reply.Code != impl.OK || back.Value != value {
		t.Error("the longest key and value", reply, back)
	}
	most, more := strings.Repeat("t", impl.MaxText), strings.Repeat("t", impl.MaxText+1)
	for kind := -1; kind <= 9; kind++ {
		for _, tx := range []int{-1, 0, 1, 4} {
			for i, a := range []impl.MvAct{{Key: "a", Value: "b", To: most}, {Key: most, Value: most, To: most}, {Key: more}, {Key: "a", To: more}, {Key: "a", Value: more}, {Key: more, To: more, Value: more}} {
				a.Kind, a.Tx = kind, tx
				what := fmt.Sprintf("kind %d, transaction %d, texts %d", kind, tx, i)
				if i > 1 {
					wantNoBase(t, what, b, a, impl.ErrLong)
					wantNoBase(t, what+" in a wrong base", impl.Base{Time: -1}, a, impl.ErrLong)
					continue
				}
				_, _, c := impl.MvStep(b, a)
				code(t, what, c, impl.OK)
				wantNoBase(t, what+" in a wrong base", impl.Base{Time: -1}, a, impl.ErrBad)
			}
		}
	}
}

// What an act has no use for is not looked at.
func TestTextsThatAreOfNoUse(t *testing.T) {
	most := strings.Repeat("t", impl.MaxText)
	plain := []impl.MvAct{mv("begin 0"), mv("put 0 a 1"), mv("put 0 b 2"), mv("drop 0 a"), mv("read 0 b"), mv("scan 0 a c"), mv("commit 0"), mv("sweep"), mv("begin 1"), mv("abort 1")}
	odd := slices.Clone(plain)
	for i, a := range odd {
		if a.Kind != impl.MvScan {
			odd[i].To = most
		}
		if a.Kind != impl.MvPut {
			odd[i].Value = most
		}
		if a.Key == "" {
			odd[i].Key = most
		}
	}
	odd[7].Tx = math.MinInt
	want, told, _ := impl.MvRun(plain)
	got, replies, c := impl.MvRun(odd)
	code(t, "run", c, impl.OK)
	wantBase(t, got, want)
	for i := range told {
		if !sameMv(replies[i], told[i]) {
			t.Error("act", i, replies[i], told[i])
		}
	}
}

// The texts of a run's acts are bounded by what is said of keys and values alone.
func TestLongTextsWithinRuns(t *testing.T) {
	more := strings.Repeat("t", impl.MaxText+1)
	_, replies, c := impl.MvRun([]impl.MvAct{
		{Kind: impl.MvBegin, Key: more, To: more, Value: more}, {Kind: impl.MvRead, Key: more}, {Kind: impl.MvScan, Key: more}, {Kind: impl.MvScan, To: more},
		{Kind: impl.MvPut, Key: more}, {Kind: impl.MvPut, Key: "a", Value: more}, {Kind: impl.MvDrop, Key: more}, {Kind: 9, Key: more}, {Kind: impl.MvRead, Tx: 1, Key: more}, {Kind: impl.MvRead, Tx: 4, Key: more},
	})
	code(t, "run", c, impl.OK)
	for i, want := range []int{impl.OK, impl.ErrBad, impl.ErrBad, impl.ErrBad, impl.ErrBad, impl.ErrBad, impl.ErrBad, impl.ErrForm, impl.ErrClosed, impl.ErrRange} {
		if !sameMv(replies[i], impl.MvReply{Code: want}) {
			t.Errorf("act %d: code %d, want %d", i, replies[i].Code, want)
		}
	}
}

func TestCommitsAtTheLastTime(t *testing.T) {
	last := impl.MaxTime
	b := base(last-1, versions(version("a", 1, 0, "x")), opentx(last-1, wrote("a", "y")), opentx(last-1, wrote("b", "y")), opentx(5), opentx(last-1, wrote("a", "z")))
	b = play(t, b, "commit 0: @2000", "commit 1: full", "commit 2: @5", "commit 3: conflict", "commit 1: closed", "begin 1: @2000", "read 1 a: 'y'", "commit 1: @2000", "begin 1: @2000", "drop 1 c: -", "commit 1: full", "begin 1: @2000", "abort 1: -", "sweep: @1")
	wantBase(t, b, base(last, versions(version("a", last, 0, "y"))))
}

// Versions and writes are counted together, those that take away too, and also where a sweep would make room.
func TestCommitsToAFullBase(t *testing.T) {
	most := impl.MaxList
	for _, c := range []struct {
		versions int
		writes   []impl.Write
		want     string
	}{
		{most, nil, "@1"}, {most, []impl.Write{wrote("k0001", "x")}, "full"}, {most, []impl.Write{gone("k0001")}, "full"}, {most, []impl.Write{gone("none")}, "full"},
		{most - 1, []impl.Write{wrote("k0001", "x")}, "@3"}, {most - 1, []impl.Write{gone("k0001")}, "@3"}, {most - 1, []impl.Write{gone("k0001"), gone("k0002")}, "full"},
		{most - 8, manyWrites(8), "@3"}, {most - 7, manyWrites(8), "full"}, {most - 7, manyWrites(7), "@3"},
	} {
		list := manyVersions(c.versions)
		list[0].End = 2
		b := base(2, list, opentx(1, c.writes...))
		next := play(t, b, "commit 0: "+c.want)
		if c.want == "full" {
			b.Txs[0] = impl.Tx{}
			wantBase(t, next, b)
			next = play(t, next, "sweep: @1")
		}
		if len(next.Versions) > most {
			t.Error("versions", len(next.Versions))
		}
	}
	b := base(1, manyVersions(most-1), opentx(0, wrote("k0001", "x"), wrote("z", "")))
	play(t, b, "commit 0: conflict")
}

func TestCommitOfAKeyThatIsNotThere(t *testing.T) {
	b := play(t, impl.NewBase(), "begin 0: -", "drop 0 a: -", "commit 0: @1")
	wantBase(t, b, base(1, nil))
	b = play(t, b, "begin 0: @1", "put 0 b 1: -", "commit 0: @2", "begin 0: @2", "drop 0 b: -", "commit 0: @3", "begin 0: @3", "drop 0 b: -", "drop 0 a: -", "commit 0: @4")
	wantBase(t, b, base(4, versions(version("b", 2, 3, "1"))))
	b = play(t, b, "begin 0: @4", "put 0 b 2: -", "put 0 a 1: -", "put 0 c -: -", "commit 0: @5")
	wantBase(t, b, base(5, versions(version("a", 5, 0, "1"), version("b", 2, 3, "1"), version("b", 5, 0, "2"), version("c", 5, 0, ""))))
}

func TestSweepsGoToTheHorizon(t *testing.T) {
	for _, c := range []struct {
		txs  []impl.Tx
		told string
		left []int // of fewVersions
	}{
		{nil, "@4", []int{0, 3, 6}}, {[]impl.Tx{opentx(7)}, "@4", []int{0, 3, 6}}, {[]impl.Tx{opentx(6)}, "@4", []int{0, 3, 6}},
		{[]impl.Tx{opentx(5)}, "@3", []int{0, 3, 5, 6}}, {[]impl.Tx{opentx(7), opentx(4, gone("a"))}, "@2", []int{0, 2, 3, 5, 6}}, {[]impl.Tx{opentx(3), opentx(7), opentx(5)}, "@2", []int{0, 2, 3, 5, 6}},
		{[]impl.Tx{{}, {}, {}, opentx(2)}, "@1", []int{0, 1, 2, 3, 5, 6}}, {[]impl.Tx{opentx(1)}, "-", run(0, 7)}, {[]impl.Tx{opentx(5), opentx(0)}, "-", run(0, 7)},
	} {
		for _, act := range []string{"sweep", "sweep 3", "sweep 99"} {
			b := base(7, fewVersions(), c.txs...)
			next := play(t, b, act+": "+c.told)
			var want []impl.Version
			for _, i := range c.left {
				want = append(want, fewVersions()[i])
			}
			wantBase(t, next, base(7, want, c.txs...))
			play(t, next, act+": -")
		}
	}
}

func TestMvRunBounds(t *testing.T) {
	for _, c := range []struct{ acts, want int }{
		{0, impl.OK}, {1, impl.OK}, {impl.MaxScript, impl.OK}, {impl.MaxScript + 1, impl.ErrMany}, {impl.MaxList, impl.ErrMany}, {impl.MaxList + 1, impl.ErrLong},
	} {
		for _, a := range []impl.MvAct{{Kind: impl.MvVacuum}, {Kind: 99}, {Key: strings.Repeat("k", impl.MaxText+1)}} {
			b, replies, got := impl.MvRun(slices.Repeat([]impl.MvAct{a}, c.acts))
			code(t, "MvRun", got, c.want)
			if got == impl.OK && (len(replies) != c.acts || !sameBase(b, impl.NewBase())) {
				t.Error("MvRun of", c.acts, b, len(replies))
			}
			if got != impl.OK && (len(replies) != 0 || !sameBase(b, impl.Base{})) {
				t.Error("MvRun of", c.acts, "has a code, and more than that")
			}
		}
	}
	if b, replies, c := impl.MvRun(nil); c != impl.OK || len(replies) != 0 || !sameBase(b, base(0, nil)) {
		t.Error("MvRun of nothing", b, replies, c)
	}
}
