package tests

import (
	"fmt"
	"math"
	"reflect"
	"slices"
	"strings"
	"testing"

	"loop.example/g00208/impl"
)

func sector(c byte) string { return strings.Repeat(string([]byte{c}), impl.SectorSize) }

func write(at int, c byte) impl.DiskAct {
	return impl.DiskAct{Kind: impl.DkWrite, At: at, Data: sector(c)}
}

func crash(keep ...bool) impl.DiskAct { return impl.DiskAct{Kind: impl.DkCrash, Keep: keep} }

func read(at int) impl.DiskAct { return impl.DiskAct{Kind: impl.DkRead, At: at} }

var syncAct = impl.DiskAct{Kind: impl.DkSync}

// disk has the sectors of these bytes, and room behind the ends of its lists.
func disk(sure string, cache ...impl.Pending) impl.Disk {
	d := impl.Disk{Sure: make([]string, 0, len(sure)+3), Cache: append(make([]impl.Pending, 0, len(cache)+3), cache...)}
	for i := range len(sure) {
		d.Sure = append(d.Sure, sector(sure[i]))
	}
	return d
}

func pending(at int, c byte) impl.Pending { return impl.Pending{At: at, Data: sector(c)} }

// manyPending are writes to the first sector.
func manyPending(n int) []impl.Pending { return slices.Repeat([]impl.Pending{pending(0, 'm')}, n) }

// cloneDisk has nil for lists that are empty, as these are the same.
func cloneDisk(d impl.Disk) impl.Disk {
	return impl.Disk{Sure: append([]string(nil), d.Sure...), Cache: append([]impl.Pending(nil), d.Cache...)}
}

func sameDisk(a, b impl.Disk) bool { return reflect.DeepEqual(cloneDisk(a), cloneDisk(b)) }

func rightDisks() []impl.Disk {
	return []impl.Disk{
		disk("a"), disk("ab"), disk("abc", pending(0, 'x')), disk("abc", pending(2, 'x'), pending(0, 'y'), pending(2, 'z')),
		disk(strings.Repeat("s", impl.MaxSectors)), disk(strings.Repeat("s", impl.MaxSectors), pending(impl.MaxSectors-1, 'x')),
		disk("a", manyPending(impl.MaxList)...), disk("ab", manyPending(impl.MaxList-1)...),
		{Sure: []string{sector(0)}, Cache: []impl.Pending{}},
	}
}

// wrongDisks are wrong each for one reason.
func wrongDisks() []impl.Disk {
	short, long := strings.Repeat("s", impl.SectorSize-1), strings.Repeat("l", impl.SectorSize+1)
	return []impl.Disk{
		{}, {Sure: []string{}}, disk("", pending(0, 'x')), disk(strings.Repeat("s", impl.MaxSectors+1)),
		{Sure: []string{""}}, {Sure: []string{short}}, {Sure: []string{long}}, {Sure: []string{sector('a'), sector('b'), long}},
		{Sure: []string{short, sector('b')}}, {Sure: []string{strings.Repeat("l", impl.MaxText+1)}},
		disk("abc", pending(-1, 'x')), disk("abc", pending(3, 'x')), disk("abc", pending(0, 'x'), pending(4, 'y')),
		disk("abc", pending(math.MinInt, 'x')), disk("abc", pending(math.MaxInt, 'x')),
		disk("abc", impl.Pending{}), disk("abc", impl.Pending{At: 1, Data: short}), disk("abc", impl.Pending{At: 1, Data: long}),
		disk("abc", pending(1, 'x'), impl.Pending{At: 2, Data: short}), disk("abc", impl.Pending{At: 2, Data: long}, pending(1, 'x')),
		disk("a", manyPending(impl.MaxList+1)...),
	}
}

// someActs go wrong on some disks, and well on others.
func someActs() []impl.DiskAct {
	acts := []impl.DiskAct{{}, {Kind: 5}, {Kind: -1}, {Kind: math.MinInt}, {Kind: math.MaxInt, At: -1, Data: "a"}, syncAct, {Kind: impl.DkSync, At: -1, Data: "a", Keep: []bool{false}}}
	for _, at := range []int{math.MinInt, -1, 0, 1, 2, 3, impl.MaxSectors - 1, impl.MaxSectors, math.MaxInt} {
		acts = append(acts, read(at), write(at, 'w'), impl.DiskAct{Kind: impl.DkWrite, At: at, Data: "short"})
	}
	acts = append(acts, impl.DiskAct{Kind: impl.DkWrite, Data: strings.Repeat("l", impl.MaxText+1)}, impl.DiskAct{Kind: impl.DkRead, At: 0, Data: "a", Keep: []bool{true}})
	return append(acts, crash(), crash(true), crash(false, true), crash(true, false, true), crash(false, false, false, true), crash(slices.Repeat([]bool{true}, impl.MaxList+1)...))
}

func TestNewDisk(t *testing.T) {
	for _, n := range []int{1, 2, 3, impl.MaxSectors - 1, impl.MaxSectors} {
		d, c := impl.NewDisk(n)
		code(t, fmt.Sprint("NewDisk ", n), c, impl.OK)
		if !sameDisk(d, disk(strings.Repeat("\x00", n))) || !impl.DiskOK(d) {
			t.Error("NewDisk", n, "is not all noughts")
		}
	}
	for _, n := range []int{0, -1, impl.MaxSectors + 1, math.MinInt, math.MaxInt, 1 << 32} {
		d, c := impl.NewDisk(n)
		code(t, fmt.Sprint("NewDisk ", n), c, impl.ErrRange)
		if !sameDisk(d, impl.Disk{}) {
			t.Error("NewDisk", n, "has a code and a disk")
		}
	}
}

func TestWrongDisks(t *testing.T) {
	for i, d := range rightDisks() {
		if !impl.DiskOK(d) {
			t.Error("right disk", i, "is not")
		}
	}
	for i, d := range wrongDisks() {
		what := fmt.Sprint("wrong disk ", i)
		if impl.DiskOK(d) {
			t.Error(what, "is right")
		}
		for _, at := range []int{0, -1, math.MaxInt} {
			data, c := impl.DiskRead(d, at)
			code(t, what+" DiskRead", c, impl.ErrBad)
			if data != "" {
				t.Error(what, "has data")
			}
		}
		for _, a := range someActs() {
			next, reply, c := impl.DiskStep(d, a)
			code(t, what+" DiskStep", c, impl.ErrBad)
			if !sameDisk(next, impl.Disk{}) || reply != (impl.DiskReply{}) {
				t.Error(what, "DiskStep has a code, and more than that")
			}
		}
		for _, other := range []impl.Disk{d, disk("abc"), {}} {
			left, c1 := impl.DiskSame(d, other)
			right, c2 := impl.DiskSame(other, d)
			code(t, what+" DiskSame", c1, impl.ErrBad)
			code(t, what+" DiskSame behind", c2, impl.ErrBad)
			if left || right {
				t.Error(what, "DiskSame has a code and true")
			}
		}
	}
}

func TestDiskRead(t *testing.T) {
	d := disk("abc", pending(2, 'x'), pending(0, 'y'), pending(2, 'z'))
	for at, c := range []byte("ybz") {
		data, got := impl.DiskRead(d, at)
		code(t, "DiskRead", got, impl.OK)
		if data != sector(c) {
			t.Errorf("DiskRead %d: %q", at, data)
		}
	}
	for _, at := range []int{-1, 3, impl.MaxSectors, math.MinInt, math.MaxInt} {
		data, got := impl.DiskRead(d, at)
		code(t, fmt.Sprint("DiskRead ", at), got, impl.ErrRange)
		if data != "" {
			t.Error("DiskRead has a code and data")
		}
	}
}

// What a crash leaves of three sectors, with three writes that are not sure.
func TestCrashKeepsWhatItsFlagsTell(t *testing.T) {
	d := disk("abc", pending(1, 'x'), pending(2, 'y'), pending(1, 'z'))
	for _, c := range []struct {
		keep []bool
		want string
	}{
		{nil, "abc"}, {[]bool{}, "abc"},
		{[]bool{false, false, false}, "abc"}, {[]bool{true, false, false}, "axc"}, {[]bool{false, true, false}, "aby"}, {[]bool{false, false, true}, "azc"},
		{[]bool{true, true, false}, "axy"}, {[]bool{true, false, true}, "azc"}, {[]bool{false, true, true}, "azy"}, {[]bool{true, true, true}, "azy"},
		{[]bool{true}, "axc"}, {[]bool{false}, "abc"}, {[]bool{true, true}, "axy"}, {[]bool{false, true}, "aby"},
		{[]bool{false, false, false, true, true}, "abc"}, {[]bool{true, false, false, true}, "axc"}, {slices.Repeat([]bool{true}, impl.MaxList+1), "azy"},
	} {
		next, reply, got := impl.DiskStep(d, crash(c.keep...))
		code(t, "DiskStep", got, impl.OK)
		if !sameDisk(next, disk(c.want)) || reply != (impl.DiskReply{}) {
			t.Errorf("crash %.50v leaves %.200v, %v", c.keep, next, reply)
		}
	}
}

func TestActs(t *testing.T) {
	d := disk("abc", pending(1, 'x'))
	with := func(p impl.Pending) impl.Disk { return disk("abc", pending(1, 'x'), p) }
	short, long := strings.Repeat("s", impl.SectorSize-1), strings.Repeat("l", impl.SectorSize+1)
	for i, c := range []struct {
		act   impl.DiskAct
		next  impl.Disk
		reply impl.DiskReply
	}{
		{write(0, 'w'), with(pending(0, 'w')), impl.DiskReply{}},
		{write(2, 'w'), with(pending(2, 'w')), impl.DiskReply{}},
		{write(-1, 'w'), d, impl.DiskReply{Code: impl.ErrRange}},
		{write(3, 'w'), d, impl.DiskReply{Code: impl.ErrRange}},
		{write(math.MinInt, 'w'), d, impl.DiskReply{Code: impl.ErrRange}},
		{write(math.MaxInt, 'w'), d, impl.DiskReply{Code: impl.ErrRange}},
		{impl.DiskAct{Kind: impl.DkWrite, At: 1, Data: short}, d, impl.DiskReply{Code: impl.ErrBad}},
		{impl.DiskAct{Kind: impl.DkWrite, At: 1, Data: long}, d, impl.DiskReply{Code: impl.ErrBad}},
		{impl.DiskAct{Kind: impl.DkWrite, At: 1}, d, impl.DiskReply{Code: impl.ErrBad}},
		{impl.DiskAct{Kind: impl.DkWrite, At: 1, Data: strings.Repeat("l", impl.MaxText+1)}, d, impl.DiskReply{Code: impl.ErrBad}},
		{impl.DiskAct{Kind: impl.DkWrite, At: 3, Data: short}, d, impl.DiskReply{Code: impl.ErrRange}},
		{syncAct, disk("axc"), impl.DiskReply{}},
		{impl.DiskAct{Kind: impl.DkSync, At: -1, Data: "a", Keep: []bool{false}}, disk("axc"), impl.DiskReply{}},
		{impl.DiskAct{Kind: impl.DkCrash, At: -1, Data: "a", Keep: []bool{true}}, disk("axc"), impl.DiskReply{}},
		{read(0), d, impl.DiskReply{Data: sector('a')}},
		{read(1), d, impl.DiskReply{Data: sector('x')}},
		{read(2), d, impl.DiskReply{Data: sector('c')}},
		{read(-1), d, impl.DiskReply{Code: impl.ErrRange}},
		{read(3), d, impl.DiskReply{Code: impl.ErrRange}},
		{impl.DiskAct{}, d, impl.DiskReply{Code: impl.ErrForm}},
		{impl.DiskAct{Kind: 5, At: -1, Data: "a"}, d, impl.DiskReply{Code: impl.ErrForm}},
		{impl.DiskAct{Kind: -1}, d, impl.DiskReply{Code: impl.ErrForm}},
		{impl.DiskAct{Kind: math.MaxInt}, d, impl.DiskReply{Code: impl.ErrForm}},
		{impl.DiskAct{Kind: impl.DkWrite + 1<<32, Data: sector('w')}, d, impl.DiskReply{Code: impl.ErrForm}},
	} {
		next, reply, got := impl.DiskStep(d, c.act)
		code(t, fmt.Sprint("DiskStep ", i), got, impl.OK)
		if !sameDisk(next, c.next) || reply != c.reply {
			t.Errorf("act %d: %.200v %.200v, want %.200v %.200v", i, next, reply, c.next, c.reply)
		}
	}
}

func TestFullCache(t *testing.T) {
	almost := disk("ab", manyPending(impl.MaxList-1)...)
	full, reply, c := impl.DiskStep(almost, write(1, 'w'))
	if c != impl.OK || reply.Code != impl.OK || len(full.Cache) != impl.MaxList || full.Cache[impl.MaxList-1] != pending(1, 'w') {
		t.Fatal("the last write that there is room for", c, reply.Code, len(full.Cache))
	}
	for _, f := range []struct {
		act  impl.DiskAct
		want int
	}{
		{write(0, 'w'), impl.ErrFull},
		{impl.DiskAct{Kind: impl.DkWrite, Data: "a"}, impl.ErrBad},
		{write(2, 'w'), impl.ErrRange},
		{impl.DiskAct{Kind: impl.DkWrite, At: -1, Data: "a"}, impl.ErrRange},
		{read(1), impl.OK},
		{impl.DiskAct{Kind: 9}, impl.ErrForm},
	} {
		next, reply, c := impl.DiskStep(full, f.act)
		code(t, "DiskStep", c, impl.OK)
		code(t, "act on a full cache", reply.Code, f.want)
		if !sameDisk(next, full) {
			t.Error("act on a full cache changed the disk", f.act)
		}
	}
	for _, a := range []impl.DiskAct{syncAct, crash(slices.Repeat([]bool{true}, impl.MaxList)...)} {
		if next, _, c := impl.DiskStep(full, a); c != impl.OK || !sameDisk(next, disk("mw")) {
			t.Error("a full cache, then act", a.Kind, c)
		}
	}
	if next, _, c := impl.DiskStep(full, crash(slices.Repeat([]bool{true}, impl.MaxList-1)...)); c != impl.OK || !sameDisk(next, disk("mb")) {
		t.Error("a full cache, then a crash that keeps all but the last", c)
	}
}

func TestDiskRunBounds(t *testing.T) {
	wrong := impl.DiskAct{Kind: 9}
	for _, c := range []struct{ sectors, acts, want int }{
		{1, 0, impl.OK}, {impl.MaxSectors, 1, impl.OK}, {2, impl.MaxActs, impl.OK},
		{2, impl.MaxActs + 1, impl.ErrMany}, {2, impl.MaxList, impl.ErrMany}, {2, impl.MaxList + 1, impl.ErrLong},
		{0, 0, impl.ErrRange}, {-1, 1, impl.ErrRange}, {impl.MaxSectors + 1, 1, impl.ErrRange}, {math.MinInt, 1, impl.ErrRange}, {math.MaxInt, 1, impl.ErrRange},
		{0, impl.MaxActs + 1, impl.ErrRange}, {impl.MaxSectors + 1, impl.MaxList, impl.ErrRange},
		{0, impl.MaxList + 1, impl.ErrLong}, {math.MaxInt, impl.MaxList + 1, impl.ErrLong},
	} {
		what := fmt.Sprintf("DiskRun of %d sectors, %d acts", c.sectors, c.acts)
		for _, a := range []impl.DiskAct{read(0), wrong} {
			d, replies, got := impl.DiskRun(c.sectors, slices.Repeat([]impl.DiskAct{a}, c.acts))
			code(t, what, got, c.want)
			if got == impl.OK && (len(replies) != c.acts || len(d.Sure) != c.sectors) {
				t.Error(what, "answers", len(replies), len(d.Sure))
			}
			if got != impl.OK && (len(replies) != 0 || !sameDisk(d, impl.Disk{})) {
				t.Error(what, "has a code, and more than that")
			}
		}
	}
}

func TestDiskSame(t *testing.T) {
	for _, c := range []struct {
		a, b impl.Disk
		want bool
	}{
		{disk("abc"), disk("abc"), true}, {disk("abc"), disk("abd"), false}, {disk("abc"), disk("bbc"), false},
		{disk("abc"), disk("ab"), false}, {disk("aa"), disk("aaa"), false},
		{disk("abc", pending(1, 'x')), disk("axc"), true}, {disk("abc", pending(1, 'x')), disk("abc"), false},
		{disk("abc", pending(1, 'x'), pending(1, 'b')), disk("abc"), true},
		{disk("abc", pending(1, 'x'), pending(2, 'y')), disk("azz", pending(2, 'y'), pending(1, 'x')), true},
		{disk("abc", pending(1, 'x'), pending(1, 'y')), disk("abc", pending(1, 'y'), pending(1, 'x')), false},
		{disk("m"), disk("a", manyPending(impl.MaxList)...), true},
		{disk(strings.Repeat("s", impl.MaxSectors)), disk(strings.Repeat("s", impl.MaxSectors-1)+"t", pending(impl.MaxSectors-1, 's')), true},
	} {
		for _, pair := range [][2]impl.Disk{{c.a, c.b}, {c.b, c.a}} {
			same, got := impl.DiskSame(pair[0], pair[1])
			code(t, "DiskSame", got, impl.OK)
			if same != c.want {
				t.Errorf("DiskSame %.200v %.200v: %v", pair[0], pair[1], same)
			}
		}
	}
}

// model is a disk told otherwise: for each sector all that was written to it, the sure one first.
type model struct {
	written [][]entryOf
	count   int
}

type entryOf struct {
	data string
	turn int
}

func newModel(sectors int) *model {
	m := &model{written: make([][]entryOf, sectors)}
	for i := range m.written {
		m.written[i] = []entryOf{{data: sector(0)}}
	}
	return m
}

func (m *model) last(at int) string { return m.written[at][len(m.written[at])-1].data }

func (m *model) settle(kept func(turn int) bool) {
	for at, list := range m.written {
		sure := list[0]
		for _, e := range list[1:] {
			if kept(e.turn) {
				sure = e
			}
		}
		m.written[at] = []entryOf{sure}
	}
	m.count = 0
}

func (m *model) do(a impl.DiskAct) impl.DiskReply {
	if inside := 0 <= a.At && a.At < len(m.written); !inside && (a.Kind == impl.DkWrite || a.Kind == impl.DkRead) {
		return impl.DiskReply{Code: impl.ErrRange}
	}
	switch {
	case a.Kind == impl.DkWrite && len(a.Data) != impl.SectorSize:
		return impl.DiskReply{Code: impl.ErrBad}
	case a.Kind == impl.DkWrite:
		m.written[a.At] = append(m.written[a.At], entryOf{a.Data, m.count})
		m.count++
	case a.Kind == impl.DkSync:
		m.settle(func(int) bool { return true })
	case a.Kind == impl.DkCrash:
		m.settle(func(turn int) bool { return turn < len(a.Keep) && a.Keep[turn] })
	case a.Kind == impl.DkRead:
		return impl.DiskReply{Data: m.last(a.At)}
	default:
		return impl.DiskReply{Code: impl.ErrForm}
	}
	return impl.DiskReply{}
}

func randomAct(d *dice, sectors int) impl.DiskAct {
	switch d.below(12) {
	case 0:
		return syncAct
	case 1:
		keep := make([]bool, d.below(8))
		for i := range keep {
			keep[i] = d.below(2) == 0
		}
		return crash(keep...)
	case 2, 3, 4:
		return read(d.below(sectors+2) - 1)
	case 5:
		return impl.DiskAct{Kind: d.below(9) - 2, At: d.below(sectors+2) - 1, Data: "x"}
	}
	return write(d.below(sectors+2)-1, byte('a'+d.below(26)))
}

func TestRunsAgainstTheModel(t *testing.T) {
	d := &dice{state: 3}
	for range 200 {
		sectors := 1 + d.below(5)
		acts := make([]impl.DiskAct, d.below(impl.MaxActs+1))
		for i := range acts {
			acts[i] = randomAct(d, sectors)
		}
		m := newModel(sectors)
		stepped, _ := impl.NewDisk(sectors)
		var want []impl.DiskReply
		for i, a := range acts {
			want = append(want, m.do(a))
			next, reply, c := impl.DiskStep(stepped, a)
			if c != impl.OK || reply != want[i] {
				t.Fatalf("act %d %v: %d %v, want %v", i, a, c, reply, want[i])
			}
			stepped = next
			for at := range sectors {
				if data, c := impl.DiskRead(stepped, at); c != impl.OK || data != m.last(at) {
					t.Fatalf("behind act %d %v: sector %d is %q, want %q", i, a, at, data, m.last(at))
				}
				if stepped.Sure[at] != m.written[at][0].data {
					t.Fatalf("behind act %d %v: sure of sector %d is %q", i, a, at, stepped.Sure[at])
				}
			}
			if len(stepped.Cache) != m.count {
				t.Fatalf("behind act %d %v: %d writes are not sure, want %d", i, a, len(stepped.Cache), m.count)
			}
		}
		ran, replies, c := impl.DiskRun(sectors, acts)
		if c != impl.OK || !slices.Equal(replies, want) || !sameDisk(ran, stepped) || !impl.DiskOK(ran) {
			t.Fatalf("DiskRun of %d acts: %d", len(acts), c)
		}
	}
}
