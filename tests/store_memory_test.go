package tests

import (
	"math"
	"reflect"
	"slices"
	"strings"
	"testing"

	"loop.example/g00208/impl"
)

// someStores are disks of all kinds, with room behind the ends of their lists.
func someStores() []impl.Disk {
	stores := append(rightDisks(), wrongDisks()...)
	for _, n := range []int{3, 4, 8, impl.MaxSectors} {
		stores = append(stores, blank(n))
	}
	one := laid(blank(9), 1, 3, []int{5, 3, 7}, blobOf(70, 2))
	two := laid(one, 0, 4, []int{2}, "newer")
	stores = append(stores, one, two, put(two, 2, sector(0)), put(one, 7, rawPage(7, 5, 3, "round")), laid(blank(6), 1, lastEpoch, []int{2}, "a"))
	two.Cache = []impl.Pending{pending(2, 'x'), pending(8, 'y')}
	stores = append(stores, two)
	for i, d := range stores {
		stores[i] = impl.Disk{
			Sure:  append(make([]string, 0, len(d.Sure)+4), d.Sure...),
			Cache: append(make([]impl.Pending, 0, len(d.Cache)+4), d.Cache...),
		}
	}
	return stores
}

func someBlobs() []string {
	return []string{"", "a", blobOf(60, 1), blobOf(impl.MaxBlob, 2), blobOf(impl.MaxBlob+1, 3), strings.Repeat("l", impl.MaxText+1)}
}

func somePins() [][]int {
	return [][]int{nil, {2, 4}, {math.MinInt, 3, math.MaxInt}, run(0, impl.MaxList+1)}
}

// askedOfStores are all calls of chapter 4 with some arguments.
func askedOfStores() []func() []any {
	var calls []func() []any
	ask := func(f func() []any) { calls = append(calls, f) }
	for _, n := range []int{math.MinInt, -1, 0, 1, 2, 255, 256, lastEpoch, lastEpoch + 1, math.MaxInt} {
		ask(func() []any { s, c := impl.PageBytes(n, 2, 3, "a"); return []any{s, c} })
		ask(func() []any { s, c := impl.PageBytes(2, n, 3, "a"); return []any{s, c} })
		ask(func() []any { s, c := impl.PageBytes(2, 3, n, "a"); return []any{s, c} })
		ask(func() []any { next, s, c := impl.ReadPage(n, 3, rawPage(n, 3, 3, "a")); return []any{next, s, c} })
		ask(func() []any { next, s, c := impl.ReadPage(2, n, rawPage(2, 3, n, "a")); return []any{next, s, c} })
		for _, m := range []impl.Meta{{Epoch: n, First: 2, Length: 3}, {Epoch: 2, First: n, Length: 3}, {Epoch: 2, First: 3, Length: n}} {
			ask(func() []any { s, c := impl.MetaBytes(m); return []any{s, c} })
			ask(func() []any { m, c := impl.ReadMeta(rawMeta(m)); return []any{m, c} })
		}
	}
	for _, s := range append(someTexts(), someBlobs()...) {
		ask(func() []any { return []any{impl.PageSum([]byte(s))} })
		ask(func() []any { s, c := impl.PageBytes(2, 3, 4, s); return []any{s, c} })
		ask(func() []any { next, s, c := impl.ReadPage(2, 3, s); return []any{next, s, c} })
		ask(func() []any { m, c := impl.ReadMeta(s); return []any{m, c} })
	}
	for _, d := range someStores() {
		ask(func() []any { o, c := impl.OpenStore(d); return []any{o, c} })
		for _, blob := range someBlobs() {
			for _, pins := range somePins() {
				ask(func() []any { a, c := impl.SavePlan(d, blob, pins); return []any{a, c} })
				ask(func() []any { next, c := impl.SaveStore(d, blob, pins); return []any{next, c} })
			}
		}
	}
	return calls
}

func TestStoresStay(t *testing.T) {
	for i, d := range someStores() {
		before := cloneDisk(behind(d))
		for _, blob := range someBlobs() {
			for _, pins := range somePins() {
				whole := append(slices.Clone(pins), 7, 8, 9)
				arg := whole[:len(pins)]
				impl.OpenStore(d)
				impl.SavePlan(d, blob, arg)
				impl.SaveStore(d, blob, arg)
				if !slices.Equal(arg, pins) || !slices.Equal(whole[len(pins):], []int{7, 8, 9}) {
					t.Fatalf("disk %d: the pins were changed", i)
				}
				if !sameDisk(behind(d), before) {
					t.Fatalf("disk %d was changed", i)
				}
			}
		}
	}
	for _, size := range []int{0, 1, 28, impl.MaxText, impl.MaxText + 1} {
		whole := []byte(blobOf(size, 1) + "behind")
		impl.PageSum(whole[:size])
		if string(whole) != blobOf(size, 1)+"behind" {
			t.Error("PageSum changed its bytes")
		}
	}
}

func TestSavedDisksAreNewMemory(t *testing.T) {
	for i := range someStores() {
		for _, blob := range []string{"", "a", blobOf(60, 1)} {
			d := someStores()[i]
			before := cloneDisk(behind(d))
			next, _ := impl.SaveStore(d, blob, nil)
			want := cloneDisk(next)
			scribble(next)
			if !sameDisk(behind(d), before) {
				t.Fatalf("disk %d: the saved one shares its memory", i)
			}
			next, _ = impl.SaveStore(d, blob, nil)
			scribble(d)
			if !sameDisk(next, want) {
				t.Fatalf("disk %d: the saved one is changed with it", i)
			}
		}
	}
}

func TestOpenedAndPlannedAreNewMemory(t *testing.T) {
	for i := range someStores() {
		d := someStores()[i]
		pins := []int{2, 4}
		first, _ := impl.OpenStore(d)
		acts, _ := impl.SavePlan(d, blobOf(60, 1), pins)
		open := impl.Opened{Epoch: first.Epoch, Pages: slices.Clone(first.Pages), Blob: first.Blob}
		told := slices.Clone(acts)
		clear(first.Pages)
		clear(acts)
		again, _ := impl.OpenStore(d)
		acts, _ = impl.SavePlan(d, blobOf(60, 1), pins)
		if !sameOpened(again, open) || !reflect.DeepEqual(acts, told) {
			t.Fatalf("disk %d: an answer hangs on what became of the one ahead", i)
		}
		scribble(d)
		clear(pins)
		if !sameOpened(again, open) || !reflect.DeepEqual(acts, told) {
			t.Fatalf("disk %d: an answer is of the arguments", i)
		}
	}
}
