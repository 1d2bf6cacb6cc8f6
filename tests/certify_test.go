package tests

import (
	"fmt"
	"math"
	"slices"
	"strings"
	"testing"

	"loop.example/g00208/impl"
)

// certify runs lines of an act, ": ", and what is told of it; the last line is what is committed.
func certify(t *testing.T, lines ...string) {
	t.Helper()
	var acts []impl.CertAct
	var wants []string
	left := lines[len(lines)-1]
	for _, line := range lines[:len(lines)-1] {
		act, want, _ := strings.Cut(line, ": ")
		acts, wants = append(acts, ce(act)), append(wants, want)
	}
	replies, state, c := impl.CertRun(acts)
	code(t, "CertRun", c, impl.OK)
	for i, want := range wants {
		if got := showCert(replies[i]); got != want {
			t.Errorf("line %d, %s is told, but %s", i, lines[i], got)
		}
	}
	if got := showEntries(state); got != left {
		t.Errorf("%s: %s is committed, want %s", lines[0], got, left)
	}
}

func TestCertifiedOneByOne(t *testing.T) {
	certify(t, "begin 2: -", "read 2 a: none", "range 2 - -: -", "write 2 b 1: -", "write 2 a 2: -", "read 2 a: '2'", "range 2 - -: a=2 b=1", "write 2 a -: -", "read 2 a: -", "range 2 - -: a= b=1", "commit 2: #1", "commit 2: closed",
		"begin 2: -", "read 2 a: -", "read 2 b: '1'", "write 2 b 3: -", "read 2 b: '3'", "write 2 c 4: -", "range 2 b -: b=3 c=4", "commit 2: #2",
		"begin 0: -", "write 0 a 9: -", "write 0 d 9: -", "abort 0: -", "abort 0: closed", "read 0 a: closed", "begin 0: -", "read 0 d: none", "range 0 - -: a= b=3 c=4", "commit 0: #3", "a= b=3 c=4")
	certify(t, "-")
	certify(t, "begin 0: -", "-")
	certify(t, "begin 0: -", "write 0 a 1: -", "-")
	certify(t, "begin 0: -", "write 0 a 1: -", "abort 0: -", "-")
	certify(t, "begin 0: -", "commit 0: #1", "begin 0: -", "commit 0: #2", "begin 5: -", "abort 5: -", "begin 0: -", "commit 0: #3", "-")
}

// What is committed by another one is seen at once; what is written ahead of its commit, or goes with an abort, is not.
func TestWhatIsCommittedNow(t *testing.T) {
	certify(t, "begin 0: -", "begin 1: -", "write 1 a 1: -", "read 0 a: none", "range 0 - -: -", "abort 1: -", "read 0 a: none", "commit 0: #1", "-")
	certify(t, "begin 0: -", "begin 1: -", "write 1 a 1: -", "commit 1: #1", "read 0 a: '1'", "begin 2: -", "write 2 b 2: -", "commit 2: #2", "read 0 b: '2'", "range 0 - -: a=1 b=2", "commit 0: #3", "a=1 b=2")
	certify(t, "begin 0: -", "begin 1: -", "write 0 b 0: -", "write 1 a 1: -", "write 1 b 1: -", "commit 1: #1", "range 0 - -: a=1 b=0", "read 0 b: '0'", "commit 0: #2", "a=1 b=0")
	certify(t, "begin 0: -", "write 0 c 3: -", "write 0 a 1: -", "begin 5: -", "range 5 - -: -", "range 0 - c: a=1", "range 0 b -: c=3", "abort 5: -", "commit 0: #1", "a=1 c=3")
}

func TestRanges(t *testing.T) {
	certify(t, "begin 0: -", "write 0 a 1: -", "write 0 b 2: -", "write 0 d 4: -", "commit 0: #1", "begin 0: -", "write 0 b own: -", "write 0 e 5: -",
		"range 0 - -: a=1 b=own d=4 e=5", "range 0 b -: b=own d=4 e=5", "range 0 b b: -", "range 0 b a: -", "range 0 b aa: -", "range 0 aa c: b=own", "range 0 - b: a=1", "range 0 - e: a=1 b=own d=4",
		"range 0 - ee: a=1 b=own d=4 e=5", "range 0 e f: e=5", "range 0 f -: -", "range 0 a a: -", "range 0 - a: -", "range 0 z a: -", "commit 0: #2", "a=1 b=own d=4 e=5")
	long := strings.Repeat("\xff", impl.MaxKey)
	for _, c := range []struct{ key, to, want string }{
		{long, "", long + "=last"}, {long, long, "-"}, {"d", long, "-"}, {"", long, "a=1"}, {long + "\xff", "", "bad"}, {"", long + "\xff", "bad"}, {"z", long + "\xff", "bad"}, {"", "", "a=1 " + long + "=last"},
	} {
		replies, _, got := impl.CertRun([]impl.CertAct{ce("begin 3"), ce("write 3 a 1"), {Kind: impl.CeWrite, Tx: 3, Key: long, Value: "last"}, {Kind: impl.CeRange, Tx: 3, Key: c.key, To: c.to}})
		if got != impl.OK || showCert(replies[3]) != c.want {
			t.Errorf("range %q %q: %s, want %s", c.key, c.to, showCert(replies[3]), c.want)
		}
	}
}

func TestCertifiedWritesAreBounded(t *testing.T) {
	lines := []string{"begin 0: -"}
	for _, key := range []string{"h", "b", "f", "d", "a", "g", "c", "e"} {
		lines = append(lines, "write 0 "+key+" 1: -")
	}
	lines = append(lines, "write 0 i 1: full", "write 0 aa 1: full", "write 0 - 1: bad", "write 0 a 2: -", "write 0 h -: -", "read 0 i: none", "read 0 aa: none", "write 0 e 3: -", "write 0 i 1: full",
		"begin 1: -", "write 1 i 1: -", "commit 0: #1", "commit 1: #2", "begin 0: -", "write 0 j 1: -", "write 0 i 2: -", "commit 0: #3", "a=2 b=1 c=1 d=1 e=3 f=1 g=1 h= i=2 j=1")
	certify(t, lines...)
}

// All transactions that there are may be open at once.
func TestSixAtOnce(t *testing.T) {
	var lines []string
	for tx := range 6 {
		lines = append(lines, fmt.Sprintf("begin %d: -", tx))
	}
	lines = append(lines, "begin 6: range", "begin 99: range")
	for tx := 5; tx >= 0; tx-- {
		lines = append(lines, fmt.Sprintf("begin %d: twice", tx), fmt.Sprintf("write %d k%d %d: -", tx, tx, tx), fmt.Sprintf("read %d k%d: '%d'", tx, tx, tx), fmt.Sprintf("commit %d: #%d", tx, 6-tx), fmt.Sprintf("commit %d: closed", tx))
	}
	certify(t, append(lines, "k0=0 k1=1 k2=2 k3=3 k4=4 k5=5")...)
}

// Codes in their order: each act is wrong for all reasons that stand behind the one that is told.
func TestOrderOfCertCodes(t *testing.T) {
	long, wide := strings.Repeat("k", impl.MaxKey+1), strings.Repeat("v", impl.MaxDatum+1)
	ahead := []impl.CertAct{ce("begin 0"), ce("begin 5")}
	for _, act := range manyWrites(impl.MaxWrites) {
		ahead = append(ahead, impl.CertAct{Kind: impl.CeWrite, Key: act.Key, Value: act.Value})
	}
	for _, c := range []struct {
		a    impl.CertAct
		want int
	}{
		{impl.CertAct{Kind: 0, Tx: -1, Key: long}, impl.ErrForm}, {impl.CertAct{Kind: 7, Tx: 9, Key: long}, impl.ErrForm}, {impl.CertAct{Kind: -1}, impl.ErrForm}, {impl.CertAct{Kind: 8, Tx: 1}, impl.ErrForm},
		{impl.CertAct{Kind: math.MinInt, Tx: math.MinInt}, impl.ErrForm}, {impl.CertAct{Kind: math.MaxInt}, impl.ErrForm}, {impl.CertAct{Kind: 1<<32 + impl.CeBegin, Tx: 1}, impl.ErrForm},
		{impl.CertAct{Kind: impl.CeBegin, Tx: 6}, impl.ErrRange}, {impl.CertAct{Kind: impl.CeBegin, Tx: -1}, impl.ErrRange}, {impl.CertAct{Kind: impl.CeRead, Tx: 6, Key: long}, impl.ErrRange},
		{impl.CertAct{Kind: impl.CeRange, Tx: math.MaxInt, To: long}, impl.ErrRange}, {impl.CertAct{Kind: impl.CeWrite, Tx: math.MinInt, Value: wide}, impl.ErrRange},
		{impl.CertAct{Kind: impl.CeCommit, Tx: 1 << 32}, impl.ErrRange}, {impl.CertAct{Kind: impl.CeAbort, Tx: 7}, impl.ErrRange},
		{impl.CertAct{Kind: impl.CeBegin, Tx: 0}, impl.ErrTwice}, {impl.CertAct{Kind: impl.CeBegin, Tx: 5, Key: long}, impl.ErrTwice},
		{impl.CertAct{Kind: impl.CeRead, Tx: 1}, impl.ErrClosed}, {impl.CertAct{Kind: impl.CeRange, Tx: 4, Key: long}, impl.ErrClosed}, {impl.CertAct{Kind: impl.CeWrite, Tx: 1, Key: long}, impl.ErrClosed},
		{impl.CertAct{Kind: impl.CeCommit, Tx: 1}, impl.ErrClosed}, {impl.CertAct{Kind: impl.CeAbort, Tx: 4}, impl.ErrClosed},
		{impl.CertAct{Kind: impl.CeRead, Tx: 0}, impl.ErrBad}, {impl.CertAct{Kind: impl.CeRead, Tx: 0, Key: long}, impl.ErrBad}, {impl.CertAct{Kind: impl.CeRange, Tx: 0, Key: long}, impl.ErrBad},
		{impl.CertAct{Kind: impl.CeRange, Tx: 0, To: long}, impl.ErrBad}, {impl.CertAct{Kind: impl.CeWrite, Tx: 0, Value: "x"}, impl.ErrBad}, {impl.CertAct{Kind: impl.CeWrite, Tx: 0, Key: long}, impl.ErrBad},
		{impl.CertAct{Kind: impl.CeWrite, Tx: 0, Key: "new", Value: wide}, impl.ErrBad}, {impl.CertAct{Kind: impl.CeWrite, Tx: 0, Key: "w0", Value: wide}, impl.ErrBad},
		{impl.CertAct{Kind: impl.CeRead, Tx: 0, Key: "a"}, impl.ErrNone}, {impl.CertAct{Kind: impl.CeRead, Tx: 5, Key: "w0"}, impl.ErrNone}, {impl.CertAct{Kind: impl.CeRead, Tx: 0, Key: long[1:]}, impl.ErrNone},
		{impl.CertAct{Kind: impl.CeWrite, Tx: 0, Key: "a"}, impl.ErrFull}, {impl.CertAct{Kind: impl.CeWrite, Tx: 0, Key: long[1:], Value: wide[1:]}, impl.ErrFull},
	} {
		replies, state, got := impl.CertRun(slices.Concat(ahead, []impl.CertAct{c.a, ce("commit 0")}))
		code(t, fmt.Sprintf("run with %.100v", c.a), got, impl.OK)
		at := len(ahead)
		if !sameCert(replies[at], impl.CertReply{Code: c.want}) || !sameCert(replies[at+1], impl.CertReply{Place: 1}) || len(state) != impl.MaxWrites {
			t.Errorf("%.100v: %v, then %v, want %s", c.a, replies[at], replies[at+1], impl.CodeWord(c.want))
		}
	}
}

func TestBoundsOfCertifiedTexts(t *testing.T) {
	key, value := strings.Repeat("k", impl.MaxKey), strings.Repeat("v", impl.MaxDatum)
	replies, state, c := impl.CertRun([]impl.CertAct{
		ce("begin 5"), {Kind: impl.CeWrite, Tx: 5, Key: key, Value: value}, {Kind: impl.CeWrite, Tx: 5, Key: "\x00", Value: ""}, {Kind: impl.CeRead, Tx: 5, Key: key}, {Kind: impl.CeRead, Tx: 5, Key: "\x00"},
		{Kind: impl.CeRange, Tx: 5, Key: key}, {Kind: impl.CeRange, Tx: 5, To: key}, ce("commit 5"),
	})
	code(t, "CertRun", c, impl.OK)
	for i, want := range []string{"-", "-", "-", "'" + value + "'", "-", key + "=" + value, "\x00=", "#1"} {
		if got := showCert(replies[i]); got != want {
			t.Errorf("act %d: %s, want %s", i, got, want)
		}
	}
	if !slices.Equal(state, []impl.Entry{{Key: "\x00"}, {Key: key, Value: value}}) {
		t.Error("committed", state)
	}
}

// What an act has no use for is not looked at; the texts of acts are bounded by what is said of keys and values alone.
func TestTextsOfCertifiedActs(t *testing.T) {
	for _, size := range []int{impl.MaxDatum + 1, impl.MaxText, impl.MaxText + 1} {
		long := strings.Repeat("t", size)
		plain := []impl.CertAct{ce("begin 0"), ce("write 0 a 1"), ce("write 0 b 2"), ce("read 0 b"), ce("range 0 a c"), ce("commit 0"), ce("begin 1"), ce("abort 1")}
		odd := slices.Clone(plain)
		for i, a := range odd {
			if a.Kind != impl.CeRange {
				odd[i].To = long
			}
			if a.Kind != impl.CeWrite {
				odd[i].Value = long
			}
			if a.Key == "" {
				odd[i].Key = long
			}
		}
		want, left, _ := impl.CertRun(plain)
		got, state, c := impl.CertRun(odd)
		code(t, "run", c, impl.OK)
		if !slices.EqualFunc(got, want, sameCert) || !slices.Equal(state, left) {
			t.Error("texts of", size, "bytes that are of no use", got, state)
		}
		replies, state, c := impl.CertRun([]impl.CertAct{
			ce("begin 0"), {Kind: impl.CeRead, Key: long}, {Kind: impl.CeRange, Key: long}, {Kind: impl.CeRange, To: long}, {Kind: impl.CeWrite, Key: long}, {Kind: impl.CeWrite, Key: "a", Value: long},
			{Kind: 9, Key: long}, {Kind: impl.CeRead, Tx: 1, Key: long}, {Kind: impl.CeRead, Tx: 6, Key: long}, ce("commit 0"),
		})
		code(t, "run", c, impl.OK)
		for i, want := range []string{"-", "bad", "bad", "bad", "bad", "bad", "form", "closed", "range", "#1"} {
			if got := showCert(replies[i]); got != want || len(state) != 0 {
				t.Errorf("%d bytes, act %d: %s, want %s", size, i, got, want)
			}
		}
	}
}

func TestCertRunBounds(t *testing.T) {
	for _, c := range []struct{ acts, want int }{
		{0, impl.OK}, {1, impl.OK}, {impl.MaxScript, impl.OK}, {impl.MaxScript + 1, impl.ErrMany}, {impl.MaxList, impl.ErrMany}, {impl.MaxList + 1, impl.ErrLong},
	} {
		for _, a := range []impl.CertAct{{Kind: 99}, {Kind: impl.CeBegin}, {Key: strings.Repeat("k", impl.MaxText+1)}} {
			replies, state, got := impl.CertRun(slices.Repeat([]impl.CertAct{a}, c.acts))
			code(t, "CertRun", got, c.want)
			if got == impl.OK && len(replies) != c.acts || got != impl.OK && len(replies) != 0 || len(state) != 0 {
				t.Error("CertRun of", c.acts, len(replies), state)
			}
		}
	}
	acts := slices.Repeat([]impl.CertAct{ce("begin 1"), ce("write 1 a 1"), ce("commit 1")}, impl.MaxScript/3)
	replies, state, c := impl.CertRun(acts)
	if c != impl.OK || replies[149].Place != 50 || showEntries(state) != "a=1" {
		t.Error("fifty commits", replies[149], state, c)
	}
	replies, state, c = impl.CertRun(append(acts, ce("begin 1")))
	if c != impl.ErrMany || len(replies) != 0 || len(state) != 0 {
		t.Error("one act more", replies, state, c)
	}
}
