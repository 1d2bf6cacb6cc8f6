package tests

import (
	"math"
	"slices"
	"testing"

	"loop.example/g00208/impl"
)

// askedOfSpaces are all calls of chapter 5 with some arguments.
func askedOfSpaces() []func() []any {
	var calls []func() []any
	ask := func(f func() []any) { calls = append(calls, f) }
	for _, n := range []int{math.MinInt, 0, 1, 8, impl.MaxPages, impl.MaxPages + 1, math.MaxInt} {
		ask(func() []any { s, c := impl.NewSpace(n); return []any{s, c} })
		ask(func() []any { s, r, c := impl.SpaceRun(n, someSpaceActs()); return []any{s, r, c} })
		ask(func() []any { s, r, c := impl.SpaceRun(n, rolledActs(&dice{state: 2}, 90, 2)); return []any{s, r, c} })
		ask(func() []any {
			s, r, c := impl.SpaceRun(n, make([]impl.SpaceAct, impl.MaxList+1))
			return []any{s, r, c}
		})
	}
	for _, s := range append(rightSpaces(), wrongSpaces()...) {
		ask(func() []any { return []any{impl.SpaceOK(s)} })
		ask(func() []any { free, c := impl.SpaceFree(s); return []any{free, c} })
		for _, a := range someSpaceActs() {
			ask(func() []any { next, r, c := impl.SpaceStep(s, a); return []any{next, r, c} })
		}
	}
	return calls
}

func TestSpacesStay(t *testing.T) {
	for _, s := range append(rightSpaces(), wrongSpaces()...) {
		before := cloneSpace(behindSpace(s))
		for _, a := range someSpaceActs() {
			impl.SpaceOK(s)
			impl.SpaceFree(s)
			impl.SpaceStep(s, a)
			if !sameSpace(behindSpace(s), before) {
				t.Fatalf("%.200v was changed by act %v", before, a)
			}
		}
	}
	acts := rolledActs(&dice{state: 9}, impl.MaxActs+1, 3)
	before := slices.Clone(acts)
	impl.SpaceRun(9, acts[:impl.MaxActs])
	impl.SpaceRun(9, acts)
	if !slices.Equal(acts, before) {
		t.Error("SpaceRun changed its acts")
	}
}

func TestStepsAreNewMemory(t *testing.T) {
	for i := range rightSpaces() {
		for _, a := range someSpaceActs() {
			s := rightSpaces()[i]
			before := cloneSpace(behindSpace(s))
			next, reply, _ := impl.SpaceStep(s, a)
			want, told := cloneSpace(next), slices.Clone(reply.Pages)
			scribbleSpace(next)
			if !slices.Equal(reply.Pages, told) {
				t.Fatalf("%v behind %v: the reply shares memory with the space", s, a)
			}
			if !sameSpace(behindSpace(s), before) {
				t.Fatalf("%v behind %v: the next space shares its memory", s, a)
			}
			next, reply, _ = impl.SpaceStep(s, a)
			for k := range reply.Pages {
				reply.Pages[k] = -9
			}
			if !sameSpace(behindSpace(s), before) || !sameSpace(next, want) {
				t.Fatalf("%v behind %v: what is told is of a space", s, a)
			}
			scribbleSpace(s)
			if !sameSpace(next, want) {
				t.Fatalf("%v behind %v: the next space is changed with it", before, a)
			}
		}
	}
}

func TestFreePagesAreNewMemory(t *testing.T) {
	for i := range rightSpaces() {
		s := rightSpaces()[i]
		before := cloneSpace(behindSpace(s))
		first, _ := impl.SpaceFree(s)
		want := slices.Clone(first)
		for k := range first {
			first[k] = -9
		}
		again, _ := impl.SpaceFree(s)
		if !slices.Equal(again, want) || !sameSpace(behindSpace(s), before) {
			t.Fatalf("%v: what is free hangs on the answer ahead", before)
		}
	}
}

// No list of a run's answer is of another one's memory.
func TestRunsOfSpacesAreNewMemory(t *testing.T) {
	acts := rolledActs(&dice{state: 4}, impl.MaxActs, 3)
	acts = append(acts[:impl.MaxActs-4], commit(2), pinAct, pinAct, unpin(0))
	want, told, _ := impl.SpaceRun(20, acts)
	want = cloneSpace(want)
	for i := range told {
		told[i].Pages = slices.Clone(told[i].Pages)
	}
	for i := range acts {
		s, replies, c := impl.SpaceRun(20, acts)
		code(t, "SpaceRun", c, impl.OK)
		pages := replies[i].Pages[:cap(replies[i].Pages)]
		for k := range pages {
			pages[k] = -9
		}
		for k := range replies {
			if k != i && !sameTold(replies[k], told[k]) {
				t.Fatal("replies", i, "and", k, "share memory")
			}
		}
		if !sameSpace(s, want) {
			t.Fatal("reply", i, "shares memory with the space")
		}
	}
	s, replies, _ := impl.SpaceRun(20, acts)
	scribbleSpace(s)
	for k := range replies {
		if !sameTold(replies[k], told[k]) {
			t.Fatal("the space shares memory with reply", k)
		}
	}
}
