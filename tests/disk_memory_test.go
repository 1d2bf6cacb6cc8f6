package tests

import (
	"math"
	"reflect"
	"slices"
	"testing"

	"loop.example/g00208/impl"
)

// askedOfDisks are all calls of chapter 3 with some arguments.
func askedOfDisks() []func() []any {
	var calls []func() []any
	ask := func(f func() []any) { calls = append(calls, f) }
	for _, n := range []int{math.MinInt, 0, 1, 3, impl.MaxSectors, impl.MaxSectors + 1, math.MaxInt} {
		ask(func() []any { d, c := impl.NewDisk(n); return []any{d, c} })
		ask(func() []any { d, r, c := impl.DiskRun(n, someActs()); return []any{d, r, c} })
		ask(func() []any { d, r, c := impl.DiskRun(n, make([]impl.DiskAct, impl.MaxList+1)); return []any{d, r, c} })
	}
	disks := append(rightDisks(), wrongDisks()...)
	for i, d := range disks {
		ask(func() []any { return []any{impl.DiskOK(d)} })
		ask(func() []any { s, c := impl.DiskRead(d, i-1); return []any{s, c} })
		ask(func() []any { same, c := impl.DiskSame(d, disks[i/2]); return []any{same, c} })
		for _, a := range someActs() {
			ask(func() []any { next, r, c := impl.DiskStep(d, a); return []any{next, r, c} })
		}
	}
	return calls
}

// behind are a disk's lists with what stands behind their ends.
func behind(d impl.Disk) impl.Disk {
	return impl.Disk{Sure: d.Sure[:cap(d.Sure)], Cache: d.Cache[:cap(d.Cache)]}
}

func TestDisksStay(t *testing.T) {
	for _, d := range append(rightDisks(), wrongDisks()...) {
		before := cloneDisk(behind(d))
		for _, a := range someActs() {
			keep := slices.Clone(a.Keep)
			impl.DiskOK(d)
			impl.DiskRead(d, a.At)
			impl.DiskStep(d, a)
			impl.DiskSame(d, d)
			if !sameDisk(behind(d), before) || !slices.Equal(keep, a.Keep) {
				t.Fatalf("%.200v was changed by act %.200v", before, a)
			}
		}
	}
	acts := append(someActs(), write(0, 'a'))
	before := append(someActs(), write(0, 'a'))
	impl.DiskRun(3, acts[:len(acts)-1])
	impl.DiskRun(3, acts)
	if !reflect.DeepEqual(acts, before) {
		t.Error("DiskRun changed its acts")
	}
}

// scribble fills a disk's lists to the ends of their memory.
func scribble(d impl.Disk) {
	d = behind(d)
	for i := range d.Sure {
		d.Sure[i] = "scribbled"
	}
	for i := range d.Cache {
		d.Cache[i] = impl.Pending{At: -9, Data: "scribbled"}
	}
}

func TestSteppedDisksAreNewMemory(t *testing.T) {
	for i, d := range rightDisks() {
		for _, a := range someActs() {
			before := cloneDisk(behind(d))
			next, _, _ := impl.DiskStep(d, a)
			scribble(next)
			if !sameDisk(behind(d), before) {
				t.Fatalf("disk %d: the next one shares its memory by act %.200v", i, a)
			}
			next, _, _ = impl.DiskStep(d, a)
			want := cloneDisk(next)
			other := impl.Disk{Sure: slices.Clone(d.Sure), Cache: slices.Clone(d.Cache)}
			scribble(d)
			if !sameDisk(next, want) {
				t.Fatalf("disk %d: the next one is changed with it by act %.200v", i, a)
			}
			d = other
		}
	}
}

// Two writes on one disk are two disks, though both go on where its cache ends.
func TestTwoStepsOfOneDisk(t *testing.T) {
	base := disk("abc", pending(0, 'x'))
	stepped, _, _ := impl.DiskStep(base, write(1, 'y'))
	for _, d := range []impl.Disk{base, stepped} {
		n := len(d.Cache)
		first, _, _ := impl.DiskStep(d, write(2, 'p'))
		second, _, _ := impl.DiskStep(d, write(2, 'q'))
		if first.Cache[n] != pending(2, 'p') || second.Cache[n] != pending(2, 'q') || len(d.Cache) != n {
			t.Error("two steps of one disk share its cache", first.Cache, second.Cache)
		}
	}
}

func TestRunsAreNewMemory(t *testing.T) {
	acts := []impl.DiskAct{write(0, 'a'), write(1, 'b'), syncAct, write(1, 'c'), read(1), read(0)}
	first, replies, _ := impl.DiskRun(3, acts)
	want, told := cloneDisk(first), slices.Clone(replies)
	scribble(first)
	clear(replies)
	again, replies, c := impl.DiskRun(3, acts)
	if c != impl.OK || !sameDisk(again, want) || !slices.Equal(replies, told) {
		t.Error("a run hangs on what became of the one ahead")
	}
	one, _ := impl.NewDisk(3)
	scribble(one)
	two, _ := impl.NewDisk(3)
	if !sameDisk(two, disk("\x00\x00\x00")) {
		t.Error("new disks share memory")
	}
}
