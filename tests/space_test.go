package tests

import (
	"fmt"
	"math"
	"slices"
	"testing"

	"loop.example/g00208/impl"
)

func TestNewSpace(t *testing.T) {
	for _, n := range []int{1, 2, impl.MaxPages - 1, impl.MaxPages} {
		s, c := impl.NewSpace(n)
		code(t, fmt.Sprint("NewSpace ", n), c, impl.OK)
		free, c := impl.SpaceFree(s)
		if !sameSpace(s, impl.Space{Total: n}) || !impl.SpaceOK(s) || !slices.Equal(free, run(0, n)) || c != impl.OK {
			t.Error("NewSpace", n, "is not all free", s, free)
		}
	}
	for _, n := range []int{0, -1, impl.MaxPages + 1, math.MinInt, math.MaxInt, 1<<32 + 1} {
		s, c := impl.NewSpace(n)
		code(t, fmt.Sprint("NewSpace ", n), c, impl.ErrRange)
		if !sameSpace(s, impl.Space{}) {
			t.Error("NewSpace", n, "has a code and a space")
		}
	}
	if impl.MaxPages != 64 || impl.MaxPins != 4 || impl.SpCommit != 1 || impl.SpPin != 2 || impl.SpUnpin != 3 {
		t.Error("a constant is another one")
	}
}

func TestRightSpaces(t *testing.T) {
	for i, s := range rightSpaces() {
		if !impl.SpaceOK(s) {
			t.Error("right space", i, "is not", s)
		}
	}
}

func TestWrongSpaces(t *testing.T) {
	for i, s := range wrongSpaces() {
		what := fmt.Sprint("wrong space ", i)
		if impl.SpaceOK(s) {
			t.Errorf("%s is right: %.200v", what, s)
		}
		free, c := impl.SpaceFree(s)
		code(t, what+" SpaceFree", c, impl.ErrBad)
		if len(free) != 0 {
			t.Error(what, "has free pages")
		}
		for _, a := range someSpaceActs() {
			next, reply, c := impl.SpaceStep(s, a)
			code(t, what+" SpaceStep", c, impl.ErrBad)
			if !sameSpace(next, impl.Space{}) || !sameTold(reply, impl.SpaceReply{}) {
				t.Error(what, "SpaceStep has a code, and more than that")
			}
		}
	}
}

func TestSpaceFree(t *testing.T) {
	for _, c := range []struct {
		s    impl.Space
		want []int
	}{
		{space(1, 0, nil, nil), []int{0}}, {space(1, 0, []int{0}, nil), nil}, {space(4, 0, []int{1, 3}, nil), []int{0, 2}},
		{space(8, 5, []int{2, 7}, []impl.Held{held(0, 4), held(1, 0), held(5, 3)}, 5), []int{3, 4, 6}},
		{space(4, 1, nil, heldRun(0, 4, 0)), nil}, {space(4, 9, []int{3}, heldRun(1, 3, 2)), []int{0}},
		{space(impl.MaxPages, 2, run(0, 32), heldRun(32, 63, 1)), []int{63}},
	} {
		free, got := impl.SpaceFree(c.s)
		code(t, "SpaceFree", got, impl.OK)
		if !slices.Equal(free, c.want) {
			t.Error("SpaceFree", c.s, free)
		}
	}
}

// Pages 1, 4 and 5 are free; 6 is held for nobody, until a commit or an unpin lets it go.
func TestSpaceActs(t *testing.T) {
	kept := []impl.Held{held(0, 4), held(3, 3), held(6, 1)}
	s := space(8, 5, []int{2, 7}, kept, 5, 3)
	stays := func(code int) (impl.Space, impl.SpaceReply) { return s, impl.SpaceReply{Code: code} }
	type outcome struct {
		act   impl.SpaceAct
		next  impl.Space
		reply impl.SpaceReply
	}
	behindCommit := []impl.Held{held(0, 4), held(2, 5), held(3, 3), held(7, 5)}
	list := []outcome{
		{commit(0), space(8, 6, nil, behindCommit, 5, 3), impl.SpaceReply{}},
		{commit(1), space(8, 6, []int{1}, behindCommit, 5, 3), impl.SpaceReply{Pages: []int{1}}},
		{commit(2), space(8, 6, []int{1, 4}, behindCommit, 5, 3), impl.SpaceReply{Pages: []int{1, 4}}},
		{commit(3), space(8, 6, []int{1, 4, 5}, behindCommit, 5, 3), impl.SpaceReply{Pages: []int{1, 4, 5}}},
		{pinAct, space(8, 5, []int{2, 7}, kept, 5, 3, 5), impl.SpaceReply{Pages: []int{2, 7}}},
		{impl.SpaceAct{Kind: impl.SpPin, N: math.MinInt}, space(8, 5, []int{2, 7}, kept, 5, 3, 5), impl.SpaceReply{Pages: []int{2, 7}}},
		{unpin(0), space(8, 5, []int{2, 7}, kept[:2], 3), impl.SpaceReply{}},
		{unpin(1), space(8, 5, []int{2, 7}, kept[:1], 5), impl.SpaceReply{}},
	}
	for _, wrong := range []struct {
		act  impl.SpaceAct
		want int
	}{
		{commit(4), impl.ErrFull}, {commit(impl.MaxPages), impl.ErrFull},
		{commit(impl.MaxPages + 1), impl.ErrRange}, {commit(-1), impl.ErrRange}, {commit(math.MinInt), impl.ErrRange}, {commit(math.MaxInt), impl.ErrRange},
		{unpin(2), impl.ErrNone}, {unpin(-1), impl.ErrNone}, {unpin(5), impl.ErrNone}, {unpin(math.MinInt), impl.ErrNone}, {unpin(math.MaxInt), impl.ErrNone},
		{impl.SpaceAct{}, impl.ErrForm}, {impl.SpaceAct{Kind: 4}, impl.ErrForm}, {impl.SpaceAct{Kind: -1, N: -1}, impl.ErrForm},
		{impl.SpaceAct{Kind: math.MinInt, N: 65}, impl.ErrForm}, {impl.SpaceAct{Kind: math.MaxInt}, impl.ErrForm}, {impl.SpaceAct{Kind: impl.SpCommit + 1<<32}, impl.ErrForm},
	} {
		next, reply := stays(wrong.want)
		list = append(list, outcome{wrong.act, next, reply})
	}
	for _, o := range list {
		next, reply, c := impl.SpaceStep(s, o.act)
		code(t, "SpaceStep", c, impl.OK)
		if !sameSpace(next, o.next) || !sameTold(reply, o.reply) {
			t.Errorf("act %v: %v %v, want %v %v", o.act, next, reply, o.next, o.reply)
		}
	}
}

func TestJustEnoughFreePages(t *testing.T) {
	for _, total := range []int{1, 2, 7, impl.MaxPages} {
		s, _ := impl.NewSpace(total)
		all, reply, c := impl.SpaceStep(s, commit(total))
		if c != impl.OK || !sameTold(reply, impl.SpaceReply{Pages: run(0, total)}) || !sameSpace(all, space(total, 1, run(0, total), nil)) {
			t.Error("all pages of", total, all, reply, c)
		}
		next, reply, c := impl.SpaceStep(s, commit(total+1))
		want := impl.ErrFull
		if total == impl.MaxPages {
			want = impl.ErrRange
		}
		code(t, "SpaceStep", c, impl.OK)
		code(t, fmt.Sprint("one page more than ", total), reply.Code, want)
		if !sameSpace(next, s) {
			t.Error("a commit without room changed the space", next)
		}
		empty, reply, c := impl.SpaceStep(all, commit(0))
		if c != impl.OK || !sameTold(reply, impl.SpaceReply{}) || !sameSpace(empty, space(total, 2, nil, heldRun(0, total, 1))) {
			t.Error("a commit of no pages", empty, reply, c)
		}
	}
}

// Behind the last epoch there is no room for another one, whatever is free.
func TestLastEpochs(t *testing.T) {
	almost := space(4, lastSpaceEpoch-1, []int{0}, nil)
	last, reply, c := impl.SpaceStep(almost, commit(2))
	if c != impl.OK || !sameTold(reply, impl.SpaceReply{Pages: []int{1, 2}}) || !sameSpace(last, space(4, lastSpaceEpoch, []int{1, 2}, []impl.Held{held(0, lastSpaceEpoch-1)})) {
		t.Fatal("the last epoch", last, reply, c)
	}
	for _, f := range []struct{ n, want int }{{0, impl.ErrFull}, {1, impl.ErrFull}, {2, impl.ErrFull}, {-1, impl.ErrRange}, {impl.MaxPages + 1, impl.ErrRange}} {
		next, reply, c := impl.SpaceStep(last, commit(f.n))
		code(t, "SpaceStep", c, impl.OK)
		code(t, fmt.Sprint("behind the last epoch: commit ", f.n), reply.Code, f.want)
		if !sameSpace(next, last) || len(reply.Pages) != 0 {
			t.Error("behind the last epoch", next, reply)
		}
	}
	pinned, reply, c := impl.SpaceStep(last, pinAct)
	if c != impl.OK || !sameTold(reply, impl.SpaceReply{Pages: []int{1, 2}}) || !slices.Equal(pinned.Pins, []int{lastSpaceEpoch}) {
		t.Error("a pin of the last epoch", pinned, reply, c)
	}
}

func TestPinsOfASpace(t *testing.T) {
	s := space(6, 4, []int{1}, []impl.Held{held(0, 3), held(2, 2), held(3, 1), held(4, 0)}, 1, 3, 2)
	full, reply, c := impl.SpaceStep(s, pinAct)
	if c != impl.OK || !sameTold(reply, impl.SpaceReply{Pages: []int{1}}) || !slices.Equal(full.Pins, []int{1, 3, 2, 4}) || !slices.Equal(full.Held, s.Held) {
		t.Fatal("the last pin that there may be", full, reply, c)
	}
	next, reply, c := impl.SpaceStep(full, pinAct)
	if c != impl.OK || !sameTold(reply, impl.SpaceReply{Code: impl.ErrFull}) || !sameSpace(next, full) {
		t.Error("a pin more than there may be", next, reply, c)
	}
	for _, u := range []struct {
		n    int
		pins []int
		kept []impl.Held
	}{
		{0, []int{3, 2, 4}, []impl.Held{held(0, 3), held(2, 2)}},
		{1, []int{1, 2, 4}, []impl.Held{held(0, 3), held(2, 2), held(3, 1)}},
		{2, []int{1, 3, 4}, []impl.Held{held(0, 3), held(2, 2), held(3, 1)}},
		{3, []int{1, 3, 2}, []impl.Held{held(0, 3), held(2, 2), held(3, 1)}},
	} {
		next, reply, c := impl.SpaceStep(full, unpin(u.n))
		if c != impl.OK || !sameTold(reply, impl.SpaceReply{}) || !sameSpace(next, space(6, 4, []int{1}, u.kept, u.pins...)) {
			t.Error("unpin", u.n, next, reply, c)
		}
	}
	for _, n := range []int{-1, 4, 5, math.MinInt, math.MaxInt} {
		next, reply, c := impl.SpaceStep(full, unpin(n))
		if c != impl.OK || !sameTold(reply, impl.SpaceReply{Code: impl.ErrNone}) || !sameSpace(next, full) {
			t.Error("unpin", n, next, reply, c)
		}
	}
	bare := space(6, 4, []int{1}, []impl.Held{held(2, 0)})
	if next, reply, c := impl.SpaceStep(bare, unpin(0)); c != impl.OK || reply.Code != impl.ErrNone || !sameSpace(next, bare) {
		t.Error("unpin where no pin is", next, reply, c)
	}
}

func TestSpaceRunBounds(t *testing.T) {
	wrong := impl.SpaceAct{Kind: 9}
	for _, c := range []struct{ total, acts, want int }{
		{1, 0, impl.OK}, {impl.MaxPages, 1, impl.OK}, {2, impl.MaxActs, impl.OK},
		{2, impl.MaxActs + 1, impl.ErrMany}, {2, impl.MaxList, impl.ErrMany}, {2, impl.MaxList + 1, impl.ErrLong},
		{0, 0, impl.ErrRange}, {-1, 1, impl.ErrRange}, {impl.MaxPages + 1, 1, impl.ErrRange}, {math.MinInt, 1, impl.ErrRange}, {math.MaxInt, 1, impl.ErrRange},
		{0, impl.MaxActs + 1, impl.ErrRange}, {impl.MaxPages + 1, impl.MaxList, impl.ErrRange},
		{0, impl.MaxList + 1, impl.ErrLong}, {math.MaxInt, impl.MaxList + 1, impl.ErrLong},
	} {
		what := fmt.Sprintf("SpaceRun of %d pages, %d acts", c.total, c.acts)
		for _, a := range []impl.SpaceAct{commit(0), wrong} {
			s, replies, got := impl.SpaceRun(c.total, slices.Repeat([]impl.SpaceAct{a}, c.acts))
			code(t, what, got, c.want)
			if got == impl.OK && (len(replies) != c.acts || s.Total != c.total) {
				t.Error(what, s, len(replies))
			}
			if got != impl.OK && (len(replies) != 0 || !sameSpace(s, impl.Space{})) {
				t.Error(what, "has a code, and more than that")
			}
		}
	}
}
