package tests

import (
	"fmt"
	"math"
	"slices"
	"strings"
	"testing"

	"loop.example/g00208/impl"
)

func TestMvConstants(t *testing.T) {
	got := []int{impl.MaxOpen, impl.MaxTime, impl.MaxWrites, impl.MaxScript, impl.MvBegin, impl.MvRead, impl.MvScan, impl.MvPut, impl.MvDrop, impl.MvCommit, impl.MvAbort, impl.MvVacuum}
	if !slices.Equal(got, []int{4, 2000, 8, 150, 1, 2, 3, 4, 5, 6, 7, 8}) {
		t.Error("constants", got)
	}
}

func TestNewBase(t *testing.T) {
	b := impl.NewBase()
	if !sameBase(b, base(0, nil)) || len(b.Txs) != impl.MaxOpen || !impl.BaseOK(b) {
		t.Fatal("NewBase", b)
	}
	scribbleBase(b)
	if again := impl.NewBase(); !sameBase(again, base(0, nil)) {
		t.Error("NewBase behind one that was written over", again)
	}
}

func TestRightBases(t *testing.T) {
	for i, b := range rightBases() {
		if !impl.BaseOK(b) {
			t.Errorf("right base %d: %.300v", i, b)
		}
	}
}

func TestWrongBases(t *testing.T) {
	for i, b := range wrongBases() {
		what := fmt.Sprintf("wrong base %d: %.300v", i, b)
		if impl.BaseOK(b) {
			t.Error(what)
		}
		for _, time := range []int{math.MinInt, -1, 0, 1, b.Time, math.MaxInt} {
			for _, key := range []string{"a", "", strings.Repeat("k", impl.MaxText)} {
				value, c := impl.ValueAt(b, time, key)
				code(t, what, c, impl.ErrBad)
				if value != "" {
					t.Error(what, "has a code and a value")
				}
			}
			list, c := impl.ListAt(b, time)
			code(t, what, c, impl.ErrBad)
			if len(list) != 0 {
				t.Error(what, "has a code and a list")
			}
		}
		n, c := impl.Horizon(b)
		code(t, what, c, impl.ErrBad)
		if n != 0 {
			t.Error(what, "has a code and a horizon")
		}
		for _, a := range []impl.MvAct{{}, mv("begin 1"), mv("read 0 a"), mv("put 0 - -"), mv("commit 0"), mv("sweep"), mv("begin 9")} {
			wantNoBase(t, what, b, a, impl.ErrBad)
		}
	}
}

func wantNoBase(t *testing.T, what string, b impl.Base, a impl.MvAct, want int) {
	t.Helper()
	next, reply, c := impl.MvStep(b, a)
	code(t, what, c, want)
	if !sameBase(next, impl.Base{}) || !sameMv(reply, impl.MvReply{}) {
		t.Errorf("%.200s: a code, and %.200v, %v", what, next, reply)
	}
}

// What is seen is from Begin on, before End.
func TestSeenAtEachTime(t *testing.T) {
	b := base(9, fewVersions(), opentx(4, wrote("a", "own"), gone("b")))
	for time, want := range []string{
		"-", "a=a1 c=c1", "a=a1 b=b2", "a=a1 b=b3", "a=a1 b=b3 c=c4", "a=a1 c=c4", "a=a1", "a=a1 b= d=d7", "a=a1 b= d=d7", "a=a1 b= d=d7",
	} {
		list, c := impl.ListAt(b, time)
		code(t, "ListAt", c, impl.OK)
		if got := showEntries(list); got != want {
			t.Errorf("at %d %s is seen, want %s", time, got, want)
		}
		for _, key := range []string{"a", "b", "c", "d", "a\x00", "e", "A", "ab"} {
			value, c := impl.ValueAt(b, time, key)
			at := slices.IndexFunc(list, func(e impl.Entry) bool { return e.Key == key })
			if at < 0 && (c != impl.ErrNone || value != "") {
				t.Errorf("at %d of %q: %q %d, want none", time, key, value, c)
			}
			if at >= 0 && (c != impl.OK || value != list[at].Value) {
				t.Errorf("at %d of %q: %q %d, want %q", time, key, value, c, list[at].Value)
			}
		}
	}
}

func TestSeenInAFullBase(t *testing.T) {
	b := base(2, manyVersions(impl.MaxList))
	for time, want := range []int{0, impl.MaxList, impl.MaxList} {
		list, c := impl.ListAt(b, time)
		if c != impl.OK || len(list) != want {
			t.Fatal("ListAt", time, len(list), c)
		}
		for i, e := range list {
			if e != (impl.Entry{Key: b.Versions[i].Key, Value: "v"}) {
				t.Fatal("ListAt", i, e)
			}
		}
	}
}

func TestTimesAndKeysThatAreAskedFor(t *testing.T) {
	key := strings.Repeat("k", impl.MaxKey)
	b := base(5, versions(version("a", 2, 0, "x"), version(key, 1, 4, "y")))
	for _, c := range []struct {
		time int
		key  string
		want int
	}{
		{2, "a", impl.OK}, {5, "a", impl.OK}, {1, "a", impl.ErrNone}, {0, "a", impl.ErrNone}, {1, key, impl.OK}, {3, key, impl.OK}, {4, key, impl.ErrNone},
		{-1, "a", impl.ErrRange}, {6, "a", impl.ErrRange}, {math.MinInt, "a", impl.ErrRange}, {math.MaxInt, "a", impl.ErrRange}, {1<<32 + 2, "a", impl.ErrRange}, {-1, "none", impl.ErrRange},
		{5, "", impl.ErrBad}, {6, "", impl.ErrBad}, {5, key + "k", impl.ErrBad}, {-1, key + "k", impl.ErrBad},
		{5, strings.Repeat("k", impl.MaxText), impl.ErrBad}, {5, strings.Repeat("k", impl.MaxText+1), impl.ErrLong}, {-1, strings.Repeat("k", impl.MaxText+1), impl.ErrLong},
	} {
		value, got := impl.ValueAt(b, c.time, c.key)
		code(t, fmt.Sprintf("ValueAt %d of %d bytes", c.time, len(c.key)), got, c.want)
		if got != impl.OK && value != "" {
			t.Error("ValueAt has a code and", value)
		}
		if c.want == impl.ErrBad || c.want == impl.ErrLong {
			continue
		}
		list, got := impl.ListAt(b, c.time)
		if c.want == impl.ErrRange && (got != impl.ErrRange || len(list) != 0) || c.want != impl.ErrRange && got != impl.OK {
			t.Error("ListAt", c.time, list, got)
		}
	}
	_, got := impl.ValueAt(impl.Base{}, 0, strings.Repeat("k", impl.MaxText+1))
	code(t, "ValueAt of a long key in a wrong base", got, impl.ErrLong)
	for _, time := range []int{0, 1, -1} {
		list, got := impl.ListAt(impl.NewBase(), time)
		if want := map[bool]int{true: impl.OK, false: impl.ErrRange}[time == 0]; got != want || len(list) != 0 {
			t.Error("ListAt of a new base", time, list, got)
		}
	}
}

func TestHorizons(t *testing.T) {
	for _, c := range []struct {
		b    impl.Base
		want int
	}{
		{impl.NewBase(), 0}, {base(7, fewVersions()), 7}, {base(impl.MaxTime, nil), impl.MaxTime}, {base(7, nil, opentx(7)), 7}, {base(7, nil, opentx(0)), 0},
		{base(7, nil, opentx(5), opentx(3), impl.Tx{}, opentx(4)), 3}, {base(7, nil, impl.Tx{}, impl.Tx{}, impl.Tx{}, opentx(6)), 6},
		{base(7, fewVersions(), opentx(2), opentx(5), opentx(7), opentx(6)), 2}, {base(impl.MaxTime, nil, impl.Tx{}, opentx(1)), 1},
	} {
		n, got := impl.Horizon(c.b)
		if n != c.want || got != impl.OK {
			t.Errorf("horizon of %v: %d %d, want %d", c.b, n, got, c.want)
		}
	}
}
