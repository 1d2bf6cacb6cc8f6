package tests

import (
	"slices"
	"testing"

	"loop.example/g00208/impl"
)

// past remembers of a space that began free all that was ever told of it.
type past struct {
	total  int
	epochs [][]int // the pages of each epoch
	pins   []int
}

func (p *past) epoch() int { return len(p.epochs) - 1 }

// needed tells the epoch whose pages a page keeps on being of; -1 if it may be given again.
func (p *past) needed(page int) int {
	for epoch := p.epoch(); epoch >= 0; epoch-- {
		if slices.Contains(p.epochs[epoch], page) {
			pinned := slices.ContainsFunc(p.pins, func(pin int) bool { return pin <= epoch })
			if epoch >= p.epoch()-1 || pinned {
				return epoch
			}
			return -1
		}
	}
	return -1
}

func (p *past) space() impl.Space {
	s := impl.Space{Total: p.total, Epoch: p.epoch(), Now: p.epochs[p.epoch()], Pins: p.pins}
	for page := range p.total {
		if epoch := p.needed(page); epoch >= 0 && epoch < p.epoch() {
			s.Held = append(s.Held, held(page, epoch))
		}
	}
	return s
}

func (p *past) free() []int {
	return slices.DeleteFunc(run(0, p.total), func(page int) bool { return p.needed(page) >= 0 })
}

func (p *past) act(a impl.SpaceAct) impl.SpaceReply {
	switch {
	case a.Kind == impl.SpCommit && (a.N < 0 || a.N > 64):
		return impl.SpaceReply{Code: impl.ErrRange}
	case a.Kind == impl.SpCommit && a.N > len(p.free()), a.Kind == impl.SpPin && len(p.pins) == 4:
		return impl.SpaceReply{Code: impl.ErrFull}
	case a.Kind == impl.SpCommit:
		p.epochs = append(p.epochs, p.free()[:a.N])
		return impl.SpaceReply{Pages: p.epochs[p.epoch()]}
	case a.Kind == impl.SpPin:
		p.pins = append(p.pins, p.epoch())
		return impl.SpaceReply{Pages: p.epochs[p.epoch()]}
	case a.Kind == impl.SpUnpin && (a.N < 0 || a.N >= len(p.pins)):
		return impl.SpaceReply{Code: impl.ErrNone}
	case a.Kind == impl.SpUnpin:
		p.pins = slices.Delete(p.pins, a.N, a.N+1)
		return impl.SpaceReply{}
	}
	return impl.SpaceReply{Code: impl.ErrForm}
}

// rolledActs are commits of few pages most of the time, some pins and unpins, and some acts that go wrong.
func rolledActs(d *dice, count, most int) []impl.SpaceAct {
	var acts []impl.SpaceAct
	for range count {
		switch d.below(12) {
		case 0, 1:
			acts = append(acts, pinAct)
		case 2, 3:
			acts = append(acts, unpin(d.below(6)-1))
		case 4:
			acts = append(acts, someSpaceActs()[d.below(len(someSpaceActs()))])
		default:
			acts = append(acts, commit(d.below(most+1)))
		}
	}
	return acts
}

func TestRunsGoAsThePastTells(t *testing.T) {
	d := &dice{state: 11}
	codes := map[int]int{}
	for range 400 {
		total := 1 + d.below(impl.MaxPages)
		acts := rolledActs(d, d.below(impl.MaxActs+1), 1+d.below(1+total/3))
		s, replies, c := impl.SpaceRun(total, acts)
		code(t, "SpaceRun", c, impl.OK)
		p := &past{total: total, epochs: [][]int{nil}}
		for i, a := range acts {
			want := p.act(a)
			codes[want.Code]++
			if !sameTold(replies[i], want) {
				t.Fatalf("run of %d, act %d %v: %v, want %v", total, i, a, replies[i], want)
			}
		}
		free, c := impl.SpaceFree(s)
		if !sameSpace(s, p.space()) || !slices.Equal(free, p.free()) || c != impl.OK || !impl.SpaceOK(s) {
			t.Fatalf("run of %d: %v, free %v, want %v, free %v", total, s, free, p.space(), p.free())
		}
	}
	for _, want := range []int{impl.OK, impl.ErrForm, impl.ErrRange, impl.ErrNone, impl.ErrFull} {
		if codes[want] < 100 {
			t.Error("the runs have few replies of code", impl.CodeWord(want))
		}
	}
}

// The promise by its words alone: it asks of the replies only, not of how pages are held.
func TestGivenPagesAreNobodys(t *testing.T) {
	d := &dice{state: 5}
	again := 0
	for range 300 {
		total := 4 + d.below(30)
		acts := rolledActs(d, impl.MaxActs, 1+total/4)
		_, replies, _ := impl.SpaceRun(total, acts)
		epochs, pins := [][]int{nil}, []int(nil)
		for i, a := range acts {
			told := replies[i]
			switch {
			case told.Code != impl.OK:
			case a.Kind == impl.SpPin:
				pins = append(pins, len(epochs)-1)
			case a.Kind == impl.SpUnpin:
				pins = slices.Delete(pins, a.N, a.N+1)
			case a.Kind == impl.SpCommit:
				this := len(epochs) - 1
				for epoch, pages := range epochs {
					mustStay := epoch >= this-1 || slices.ContainsFunc(pins, func(pin int) bool { return pin <= epoch })
					for _, page := range told.Pages {
						if !slices.Contains(pages, page) {
							continue
						}
						again++
						if mustStay {
							t.Fatalf("commit to epoch %d with pins %v gives page %d of epoch %d", this+1, pins, page, epoch)
						}
					}
				}
				epochs = append(epochs, told.Pages)
			}
		}
	}
	if again < 1000 {
		t.Error("hardly a page was ever given again:", again)
	}
}

// A pin keeps its pages through any number of commits, and lets them go with it.
func TestAPinHoldsAsLongAsItIsThere(t *testing.T) {
	acts := []impl.SpaceAct{commit(3), pinAct}
	for range 50 {
		acts = append(acts, commit(0))
	}
	acts = append(acts, commit(5), commit(6))
	s, replies, _ := impl.SpaceRun(8, acts)
	if n := len(acts); !slices.Equal(replies[n-2].Pages, run(3, 8)) || replies[n-1].Code != impl.ErrFull {
		t.Fatal("around a pin", replies[n-2:])
	}
	if !slices.Equal(s.Held, heldRun(0, 3, 1)) {
		t.Fatal("held for a pin", s.Held)
	}
	s, _, _ = impl.SpaceStep(s, pinAct)
	s, _, _ = impl.SpaceStep(s, unpin(0))
	s, reply, _ := impl.SpaceStep(s, commit(4))
	if reply.Code != impl.ErrFull {
		t.Fatal("four pages of three", reply)
	}
	s, reply, _ = impl.SpaceStep(s, commit(3))
	if !slices.Equal(reply.Pages, run(0, 3)) || !slices.Equal(s.Held, heldRun(3, 8, 52)) {
		t.Fatal("behind a pin", reply, s)
	}
	both := append(heldRun(0, 3, 53), heldRun(3, 8, 52)...)
	for range 3 {
		s, _, _ = impl.SpaceStep(s, commit(0))
		if !slices.Equal(s.Held, both) {
			t.Fatal("from a pin on", s)
		}
	}
	s, _, _ = impl.SpaceStep(s, unpin(0))
	if len(s.Held) != 0 || len(s.Pins) != 0 || s.Epoch != 56 {
		t.Error("held for nobody", s)
	}
}

// Of two pins of one epoch the second one still holds it; to unpin a later one frees nothing.
func TestTwoPins(t *testing.T) {
	s, replies, _ := impl.SpaceRun(6, []impl.SpaceAct{commit(2), pinAct, pinAct, commit(1), pinAct, commit(1), commit(0), commit(0), unpin(0), unpin(1)})
	if !slices.Equal(s.Pins, []int{1}) || !slices.Equal(s.Held, []impl.Held{held(0, 1), held(1, 1), held(2, 2), held(3, 3)}) {
		t.Fatal("two pins of one epoch", s, replies)
	}
	s, _, _ = impl.SpaceStep(s, unpin(0))
	if !sameSpace(s, impl.Space{Total: 6, Epoch: 5}) {
		t.Error("no pin any more", s)
	}
}

// stepped tells by the document's words what an act makes of a right space, however it came to be.
func stepped(s impl.Space, a impl.SpaceAct) impl.Space {
	s = cloneSpace(s)
	switch a.Kind {
	case impl.SpCommit:
		free, _ := impl.SpaceFree(s)
		for _, page := range s.Now {
			s.Held = append(s.Held, held(page, s.Epoch))
		}
		slices.SortFunc(s.Held, func(a, b impl.Held) int { return a.Page - b.Page })
		s.Now, s.Epoch = free[:a.N], s.Epoch+1
	case impl.SpPin:
		s.Pins = append(s.Pins, s.Epoch)
		return s
	case impl.SpUnpin:
		s.Pins = slices.Delete(s.Pins, a.N, a.N+1)
	}
	s.Held = slices.DeleteFunc(s.Held, func(h impl.Held) bool {
		for _, pin := range s.Pins {
			if h.Epoch >= pin {
				return false
			}
		}
		return h.Epoch < s.Epoch-1
	})
	return s
}

// rolledSpace is a right one, though no run may lead to it.
func rolledSpace(d *dice) impl.Space {
	s := impl.Space{Total: 1 + d.below(12), Epoch: d.below(9)}
	for page := range s.Total {
		switch d.below(3) {
		case 0:
			s.Now = append(s.Now, page)
		case 1:
			if s.Epoch > 0 {
				s.Held = append(s.Held, held(page, d.below(s.Epoch)))
			}
		}
	}
	for range d.below(impl.MaxPins + 1) {
		s.Pins = append(s.Pins, d.below(s.Epoch+1))
	}
	return s
}

func TestStepsOfAnySpace(t *testing.T) {
	d := &dice{state: 3}
	for range 3000 {
		s := rolledSpace(d)
		if !impl.SpaceOK(s) {
			t.Fatal("a right space is not", s)
		}
		for _, a := range []impl.SpaceAct{commit(0), commit(1), commit(d.below(5)), pinAct, unpin(0), unpin(d.below(4))} {
			next, reply, c := impl.SpaceStep(s, a)
			code(t, "SpaceStep", c, impl.OK)
			want := s
			if reply.Code == impl.OK {
				want = stepped(s, a)
			}
			if !sameSpace(next, want) || !impl.SpaceOK(next) {
				t.Fatalf("%v behind %v: %v, want %v", s, a, next, want)
			}
		}
	}
}
