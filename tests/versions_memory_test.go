package tests

import (
	"math"
	"slices"
	"strings"
	"testing"

	"loop.example/g00208/impl"
)

// askedOfBases are all calls of chapter 8 with some arguments.
func askedOfBases() []func() []any {
	var calls []func() []any
	ask := func(f func() []any) { calls = append(calls, f) }
	ask(func() []any { return []any{impl.NewBase()} })
	for i, b := range slices.Concat(rightBases(), wrongBases()) {
		ask(func() []any { return []any{impl.BaseOK(b)} })
		ask(func() []any { n, c := impl.Horizon(b); return []any{n, c} })
		for _, time := range []int{math.MinInt, 0, b.Time / 2, b.Time, math.MaxInt} {
			ask(func() []any { v, c := impl.ValueAt(b, time, "b"); return []any{v, c} })
			ask(func() []any { list, c := impl.ListAt(b, time); return []any{list, c} })
		}
		for k, a := range someMvActs() {
			if (i+k)%5 == 0 {
				ask(func() []any { next, r, c := impl.MvStep(b, a); return []any{next, r, c} })
			}
		}
	}
	for seed := range uint64(20) {
		acts := rolledMv(&dice{state: seed}, impl.MaxScript)
		ask(func() []any { b, r, c := impl.MvRun(acts); return []any{b, r, c} })
	}
	for _, count := range []int{0, impl.MaxScript + 1, impl.MaxList + 1} {
		ask(func() []any { b, r, c := impl.MvRun(make([]impl.MvAct, count)); return []any{b, r, c} })
	}
	long := strings.Repeat("k", impl.MaxText+1)
	ask(func() []any { v, c := impl.ValueAt(impl.NewBase(), 0, long); return []any{v, c} })
	ask(func() []any { b, r, c := impl.MvStep(impl.NewBase(), impl.MvAct{Key: long}); return []any{b, r, c} })
	return calls
}

func TestBasesStay(t *testing.T) {
	for _, b := range slices.Concat(rightBases(), wrongBases()) {
		before := cloneBase(behindBase(b))
		impl.BaseOK(b)
		impl.Horizon(b)
		impl.ValueAt(b, b.Time, "a")
		impl.ListAt(b, b.Time)
		for _, a := range someMvActs() {
			impl.MvStep(b, a)
		}
		if !sameBase(behindBase(b), before) {
			t.Fatalf("%.300v was changed", before)
		}
	}
	acts := rolledMv(&dice{state: 9}, impl.MaxScript+1)
	before := slices.Clone(acts)
	impl.MvRun(acts[:impl.MaxScript])
	impl.MvRun(acts)
	if !slices.Equal(acts, before) {
		t.Error("MvRun changed its acts")
	}
}

// smallBases are right ones that are quickly copied.
func smallBases() []impl.Base {
	return slices.DeleteFunc(rightBases(), func(b impl.Base) bool { return len(b.Versions) > 20 })
}

// roomyBase has lists of its own, with room behind their ends.
func roomyBase(b impl.Base) impl.Base {
	b = cloneBase(b)
	for i, tx := range b.Txs {
		b.Txs[i].Writes = roomy(tx.Writes, wrote("behind", "77"))
	}
	return base(b.Time, b.Versions, b.Txs...)
}

func TestSteppedBasesAreNewMemory(t *testing.T) {
	for _, model := range smallBases() {
		for _, a := range append(someMvActs(), mv("drop 0 a"), mv("put 1 aa 1"), mv("put 3 zz 1"), mv("read 1 b")) {
			b := roomyBase(model)
			before := cloneBase(behindBase(b))
			next, reply, _ := impl.MvStep(b, a)
			want, told := cloneBase(next), slices.Clone(reply.List)
			scribbleList(reply.List[:cap(reply.List)], impl.Entry{Key: "scribbled"})
			if !sameBase(behindBase(b), before) || !sameBase(next, want) {
				t.Fatalf("%v behind %v: what is told is of a base", before, a)
			}
			scribbleBase(next)
			if !sameBase(behindBase(b), before) {
				t.Fatalf("%v behind %v: the next base shares its memory", before, a)
			}
			next, reply, _ = impl.MvStep(b, a)
			scribbleBase(b)
			if !sameBase(next, want) || !slices.Equal(reply.List, told) {
				t.Fatalf("%v behind %v: the answer is changed with it", before, a)
			}
			scribbleBase(next)
			if !slices.Equal(reply.List, told) {
				t.Fatalf("%v behind %v: the reply shares memory with the base", before, a)
			}
		}
	}
}

// Each list of a stepped base is written over by itself, with what stands behind its end.
func TestListsOfBasesShareNothing(t *testing.T) {
	for _, b := range smallBases() {
		for _, a := range []impl.MvAct{mv("begin 1"), mv("put 0 a 1"), mv("put 1 zz 1"), mv("drop 2 b"), mv("commit 0"), mv("abort 1"), mv("sweep")} {
			want, _, _ := impl.MvStep(b, a)
			for tx := range want.Txs {
				next, _, _ := impl.MvStep(b, a)
				writes := next.Txs[tx].Writes
				scribbleList(writes[:cap(writes)], wrote("scribbled", "9"))
				next.Txs[tx].Writes = want.Txs[tx].Writes
				if !sameBase(next, want) {
					t.Fatalf("%v behind %v: the writes of %d share memory", b, a, tx)
				}
			}
		}
	}
}

func TestListsAtTimesAreNewMemory(t *testing.T) {
	b := base(7, fewVersions())
	before := cloneBase(behindBase(b))
	for time := range 8 {
		first, _ := impl.ListAt(b, time)
		want := slices.Clone(first)
		scribbleList(first[:cap(first)], impl.Entry{Key: "scribbled"})
		again, _ := impl.ListAt(b, time)
		if !slices.Equal(again, want) || !sameBase(behindBase(b), before) {
			t.Fatal("what is seen hangs on the answer ahead", again, want)
		}
	}
	list, _ := impl.ListAt(b, 7)
	scribbleBase(b)
	if showEntries(list) != "a=a1 b= d=d7" {
		t.Error("what is seen is of the base", list)
	}
}

// No list of a run's answer is of another one's memory.
func TestRunsOfBasesAreNewMemory(t *testing.T) {
	acts := rolledMv(&dice{state: 6}, impl.MaxScript-6)
	acts = append(acts, mv("begin 0"), mv("begin 1"), mv("put 0 a 1"), mv("put 1 b 1"), mv("scan 0 - -"), mv("scan 0 - -"))
	want, told, _ := impl.MvRun(acts)
	want = cloneBase(want)
	for i := range told {
		told[i].List = slices.Clone(told[i].List)
	}
	for i := range acts {
		b, replies, c := impl.MvRun(acts)
		code(t, "MvRun", c, impl.OK)
		list := replies[i].List
		scribbleList(list[:cap(list)], impl.Entry{Key: "scribbled"})
		for k := range replies {
			if k != i && !sameMv(replies[k], told[k]) {
				t.Fatal("replies", i, "and", k, "share memory")
			}
		}
		if !sameBase(b, want) {
			t.Fatal("reply", i, "shares memory with the base")
		}
	}
	b, replies, _ := impl.MvRun(acts)
	scribbleBase(b)
	for k := range replies {
		if !sameMv(replies[k], told[k]) {
			t.Fatal("the base shares memory with reply", k)
		}
	}
}
