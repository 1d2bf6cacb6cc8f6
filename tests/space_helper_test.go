package tests

import (
	"math"
	"reflect"
	"slices"

	"loop.example/g00208/impl"
)

const lastSpaceEpoch = 1000000

func commit(n int) impl.SpaceAct { return impl.SpaceAct{Kind: impl.SpCommit, N: n} }

func unpin(n int) impl.SpaceAct { return impl.SpaceAct{Kind: impl.SpUnpin, N: n} }

var pinAct = impl.SpaceAct{Kind: impl.SpPin}

func held(page, epoch int) impl.Held { return impl.Held{Page: page, Epoch: epoch} }

// roomy has the same elements, and two others behind its end.
func roomy[E any](list []E, behind E) []E {
	return append(slices.Clone(list), behind, behind)[:len(list)]
}

// space has lists with room behind their ends.
func space(total, epoch int, now []int, kept []impl.Held, pins ...int) impl.Space {
	return impl.Space{Total: total, Epoch: epoch, Now: roomy(now, 77), Held: roomy(kept, held(77, 77)), Pins: roomy(pins, 77)}
}

// cloneSpace has nil for lists that are empty, as these are the same.
func cloneSpace(s impl.Space) impl.Space {
	s.Now = append([]int(nil), s.Now...)
	s.Held = append([]impl.Held(nil), s.Held...)
	s.Pins = append([]int(nil), s.Pins...)
	return s
}

func sameSpace(a, b impl.Space) bool { return reflect.DeepEqual(cloneSpace(a), cloneSpace(b)) }

func sameTold(a, b impl.SpaceReply) bool { return a.Code == b.Code && slices.Equal(a.Pages, b.Pages) }

// behindSpace are a space's lists with what stands behind their ends.
func behindSpace(s impl.Space) impl.Space {
	s.Now, s.Held, s.Pins = s.Now[:cap(s.Now)], s.Held[:cap(s.Held)], s.Pins[:cap(s.Pins)]
	return s
}

func scribbleSpace(s impl.Space) {
	s = behindSpace(s)
	for i := range s.Now {
		s.Now[i] = -9
	}
	for i := range s.Held {
		s.Held[i] = held(-9, -9)
	}
	for i := range s.Pins {
		s.Pins[i] = -9
	}
}

// heldRun are the pages from one up to another, all of one epoch.
func heldRun(from, to, epoch int) []impl.Held {
	var list []impl.Held
	for page := from; page < to; page++ {
		list = append(list, held(page, epoch))
	}
	return list
}

func rightSpaces() []impl.Space {
	none := []impl.Held(nil)
	spaces := []impl.Space{
		space(1, 0, nil, none), space(impl.MaxPages, 0, nil, none), space(3, lastSpaceEpoch, nil, none),
		space(4, 0, []int{1, 3}, none), space(1, 0, []int{0}, none, 0),
		space(impl.MaxPages, 1, run(0, impl.MaxPages), none), space(impl.MaxPages, 1, nil, heldRun(0, impl.MaxPages, 0)),
		space(impl.MaxPages, lastSpaceEpoch, run(0, 32), heldRun(32, impl.MaxPages, lastSpaceEpoch-1), lastSpaceEpoch, 0, 7, lastSpaceEpoch-1),
		space(8, 5, []int{2, 7}, []impl.Held{held(0, 4), held(1, 0), held(5, 3), held(6, 1)}),
		space(8, 5, []int{2, 7}, []impl.Held{held(0, 4), held(1, 0), held(5, 3), held(6, 1)}, 5, 3),
		space(8, 5, []int{0, 6}, []impl.Held{held(1, 2), held(2, 3), held(3, 4), held(7, 1)}, 2, 4, 2, 1),
		space(8, 5, nil, []impl.Held{held(1, 2), held(7, 1)}, 0, 0, 0, 0), space(2, 3, []int{1}, none, 3, 3, 3),
	}
	return append(spaces, impl.Space{Total: 2, Now: []int{}, Held: []impl.Held{}, Pins: []int{}})
}

// wrongSpaces are wrong each for one reason.
func wrongSpaces() []impl.Space {
	none := []impl.Held(nil)
	spaces := []impl.Space{
		{}, space(0, 0, nil, none), space(-1, 0, nil, none), space(impl.MaxPages+1, 0, nil, none),
		space(math.MinInt, 0, nil, none), space(math.MaxInt, 0, nil, none), space(1<<32+4, 0, nil, none),
		space(4, -1, nil, none), space(4, lastSpaceEpoch+1, nil, none), space(4, math.MinInt, nil, none), space(4, math.MaxInt, nil, none),
		space(4, 2, []int{1, 0}, none), space(4, 2, []int{1, 1}, none), space(4, 2, []int{0, 2, 1}, none), space(4, 2, []int{0, 1, 3, 3}, none),
		space(4, 2, []int{-1}, none), space(4, 2, []int{-1, 2}, none), space(4, 2, []int{4}, none), space(4, 2, []int{0, 4}, none),
		space(4, 2, []int{math.MinInt, 0}, none), space(4, 2, []int{0, math.MaxInt}, none), space(4, 2, run(0, impl.MaxList+1), none),
		space(4, 2, []int{0}, []impl.Held{held(0, 1)}), space(4, 2, []int{0, 3}, []impl.Held{held(1, 1), held(3, 0)}),
		space(4, 2, []int{2, 3}, []impl.Held{held(2, 1)}), space(impl.MaxPages, 2, run(0, 33), heldRun(32, impl.MaxPages, 1)),
		space(4, 2, nil, []impl.Held{held(1, 1), held(0, 1)}), space(4, 2, nil, []impl.Held{held(1, 0), held(1, 0)}),
		space(4, 2, nil, []impl.Held{held(1, 0), held(1, 1)}), space(4, 2, nil, []impl.Held{held(0, 0), held(3, 0), held(2, 1)}),
		space(4, 2, nil, []impl.Held{held(-1, 1)}), space(4, 2, nil, []impl.Held{held(-1, 1), held(2, 1)}),
		space(4, 2, nil, []impl.Held{held(4, 1)}), space(4, 2, []int{0}, []impl.Held{held(1, 1), held(4, 0)}),
		space(4, 2, nil, []impl.Held{held(math.MinInt, 1)}), space(4, 2, nil, []impl.Held{held(math.MaxInt, 1)}),
		space(4, 2, nil, []impl.Held{held(1, -1)}), space(4, 2, nil, []impl.Held{held(1, 2)}), space(4, 2, nil, []impl.Held{held(1, 3)}),
		space(4, 2, nil, []impl.Held{held(0, 1), held(1, 2)}), space(4, 2, nil, []impl.Held{held(0, -1), held(1, 1)}),
		space(4, 2, nil, []impl.Held{held(1, math.MinInt)}), space(4, 2, nil, []impl.Held{held(1, math.MaxInt)}),
		space(4, 0, nil, []impl.Held{held(1, 0)}), space(4, 0, nil, []impl.Held{held(1, -1)}),
		space(4, 2, nil, none, 0, 0, 0, 0, 0), space(4, 2, nil, none, 0, 1, 2, 1, 0), space(4, 2, nil, none, make([]int, impl.MaxList+1)...),
		space(4, 2, nil, none, -1), space(4, 2, nil, none, 3), space(4, 2, nil, none, 0, 1, 2, 3), space(4, 2, nil, none, -1, 2),
		space(4, 0, nil, none, 1), space(4, 2, nil, none, math.MinInt), space(4, 2, nil, none, 1, math.MaxInt),
	}
	return append(spaces, space(4, 2, nil, heldRun(0, impl.MaxList+1, 1)))
}

// someSpaceActs go wrong on some spaces, and well on others.
func someSpaceActs() []impl.SpaceAct {
	var acts []impl.SpaceAct
	for _, n := range []int{math.MinInt, -1, 0, 1, 2, 3, 4, 5, impl.MaxPages - 1, impl.MaxPages, impl.MaxPages + 1, 1 << 32, math.MaxInt} {
		for _, kind := range []int{math.MinInt, -1, 0, impl.SpCommit, impl.SpPin, impl.SpUnpin, 4, impl.SpCommit + 1<<32, math.MaxInt} {
			acts = append(acts, impl.SpaceAct{Kind: kind, N: n})
		}
	}
	return acts
}
