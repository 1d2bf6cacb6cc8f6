package tests

import (
	"fmt"
	"slices"
	"testing"

	"loop.example/g00208/impl"
)

// flagsFor are flags of writes that are not sure: all, none, each alone, all but one, and every choice of a few.
func flagsFor(writes int, d *dice) [][]bool {
	list := [][]bool{nil, slices.Repeat([]bool{true}, writes), make([]bool, writes)}
	if writes <= 5 {
		for choice := range 1 << writes {
			flags := make([]bool, writes)
			for i := range flags {
				flags[i] = choice>>i&1 == 1
			}
			list = append(list, flags)
		}
		return list
	}
	for i := range writes {
		one := make([]bool, writes)
		one[i] = true
		but := slices.Repeat([]bool{true}, writes)
		but[i] = false
		list = append(list, one, but, but[:i])
	}
	for range 10 {
		flags := make([]bool, writes)
		for i := range flags {
			flags[i] = d.below(2) == 0
		}
		list = append(list, flags)
	}
	return list
}

func crashed(t *testing.T, d impl.Disk, flags []bool) impl.Disk {
	t.Helper()
	next, reply, c := impl.DiskStep(d, crash(flags...))
	if c != impl.OK || reply.Code != impl.OK {
		t.Fatal("crash", c, reply.Code)
	}
	return next
}

// afterPowerCut is what must be open when the power goes behind some acts of a save, with these flags:
// what was saved as soon as its meta is on the disk, and what was there until then.
func afterPowerCut(cut, acts int, flags []bool, before, after impl.Opened) impl.Opened {
	metaKept := cut == acts-1 && len(flags) > 0 && flags[0]
	if cut == acts || metaKept {
		return after
	}
	return before
}

// cutEverywhere lets the power go behind every number of a save's acts, and answers the disks that are left.
func cutEverywhere(t *testing.T, what string, d impl.Disk, blob string, pinned []int, dc *dice) []impl.Disk {
	t.Helper()
	before := opened(t, what, d)
	acts, whole := saved(t, what, d, blob, pinned)
	after := opened(t, what, whole)
	if after.Epoch != before.Epoch+1 || after.Blob != blob {
		t.Fatalf("%s: what is open is not what was saved", what)
	}
	checkSpared(t, what, d, acts, before, pinned)
	var left []impl.Disk
	for cut := range len(acts) + 1 {
		at := played(t, d, acts[:cut])
		for _, flags := range flagsFor(len(at.Cache), dc) {
			next := crashed(t, at, flags)
			want := afterPowerCut(cut, len(acts), flags, before, after)
			wantOpened(t, fmt.Sprintf("%s, cut behind %d of %d, flags %v", what, cut, len(acts), flags), next, want)
			left = append(left, next)
		}
	}
	return left
}

// checkSpared asks that no act writes to a page that is open or pinned, or to the meta that is open.
func checkSpared(t *testing.T, what string, d impl.Disk, acts []impl.DiskAct, open impl.Opened, pinned []int) {
	t.Helper()
	for i, a := range acts {
		if a.Kind != impl.DkWrite {
			continue
		}
		if a.At >= 2 && (slices.Contains(open.Pages, a.At) || slices.Contains(pinned, a.At)) {
			t.Errorf("%s: act %d writes to page %d", what, i, a.At)
		}
		data, _ := impl.DiskRead(d, a.At)
		if m, c := impl.ReadMeta(data); a.At < 2 && c == impl.OK && m.Epoch == open.Epoch {
			t.Errorf("%s: act %d writes to the meta that is open", what, i)
		}
	}
}

func TestPowerCuts(t *testing.T) {
	dc := &dice{state: 5}
	d := blank(12)
	for i, c := range []struct {
		length int
		pinned []int
	}{
		{40, nil}, {100, nil}, {0, nil}, {135, []int{2, 3}}, {27, []int{2, 3, 9, 10}}, {1, nil}, {0, nil}, {0, run(2, 12)}, {270, nil}, {0, nil}, {28, []int{7}},
	} {
		blob := blobOf(c.length, i)
		cutEverywhere(t, fmt.Sprint("save ", i), d, blob, c.pinned, dc)
		_, d = saved(t, fmt.Sprint("save ", i), d, blob, c.pinned)
	}
}

func TestPowerCutsOfAGreatBlob(t *testing.T) {
	d := blank(impl.MaxSectors)
	_, d = saved(t, "first", d, blobOf(impl.MaxBlob, 1), nil)
	before := opened(t, "first", d)
	acts, whole := saved(t, "second", d, blobOf(impl.MaxBlob, 2), nil)
	after := opened(t, "second", whole)
	checkSpared(t, "second", d, acts, before, nil)
	for cut := range len(acts) + 1 {
		at := played(t, d, acts[:cut])
		some := slices.Repeat([]bool{true, false, false}, len(at.Cache)/3+1)
		for _, flags := range [][]bool{nil, slices.Repeat([]bool{true}, impl.MaxList), some} {
			want := afterPowerCut(cut, len(acts), flags, before, after)
			wantOpened(t, fmt.Sprint("cut behind ", cut), crashed(t, at, flags), want)
		}
	}
}

// What a power cut leaves is a disk to save on, and to cut off again.
func TestSavesBehindPowerCuts(t *testing.T) {
	dc := &dice{state: 9}
	for round := range 40 {
		sectors := 6 + dc.below(8)
		d := blank(sectors)
		for step := range 6 {
			what := fmt.Sprintf("round %d, step %d", round, step)
			pinned := randomPins(dc, sectors)
			room := len(lowestFree(sectors, sectors, opened(t, what, d).Pages, pinned))
			blob := blobOf(dc.below(room*27+1), round+step)
			left := cutEverywhere(t, what, d, blob, pinned, dc)
			d = left[dc.below(len(left))]
		}
	}
}

// A page that an older save left behind is not taken for one of a newer save that was cut off.
func TestStalePagesAreNotOpened(t *testing.T) {
	_, d := saved(t, "first", blank(8), blobOf(54, 1), nil)
	_, d = saved(t, "second", d, blobOf(54, 2), nil)
	acts, _ := saved(t, "third", d, blobOf(54, 3), nil)
	meta := acts[len(acts)-2]
	// the meta alone, as if it had come ahead of its pages
	d = put(d, meta.At, meta.Data)
	wantOpened(t, "a meta ahead of its pages", d, impl.Opened{Epoch: 2, Pages: []int{4, 5}, Blob: blobOf(54, 2)})
}
