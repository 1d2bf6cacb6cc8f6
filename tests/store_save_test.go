package tests

import (
	"fmt"
	"math"
	"slices"
	"strings"
	"testing"

	"loop.example/g00208/impl"
)

// checkSave holds a save against the acts that the document tells, and what is open behind it.
func checkSave(t *testing.T, what string, d impl.Disk, blob string, pinned []int, epoch int, pages []int) impl.Disk {
	t.Helper()
	acts, next := saved(t, what, d, blob, pinned)
	if !sameActs(acts, wantedActs(epoch, pages, blob)) {
		t.Errorf("%s: acts %.300v", what, acts)
	}
	wantOpened(t, what, next, impl.Opened{Epoch: epoch, Pages: pages, Blob: blob})
	return next
}

func TestSaveOnANewDisk(t *testing.T) {
	for _, length := range []int{0, 1, 26, 27, 28, 53, 54, 55, 80, 81, 6 * 27} {
		blob := blobOf(length, length)
		need := (length + 26) / 27
		checkSave(t, fmt.Sprint(length, " bytes"), blank(8), blob, nil, 1, run(2, 2+need))
		checkSave(t, fmt.Sprint(length, " bytes, pins"), blank(16), blob, []int{3, 2, 3}, 1, run(4, 4+need))
	}
	checkSave(t, "MaxBlob", blank(impl.MaxSectors), blobOf(impl.MaxBlob, 1), nil, 1, run(2, 114))
	checkSave(t, "4 sectors", blank(4), blobOf(54, 1), nil, 1, []int{2, 3})
	checkSave(t, "a disk of other bytes", disk("MMMMMM"), blobOf(54, 1), nil, 1, []int{2, 3})
	checkSave(t, "noughts", blank(4), strings.Repeat("\x00", 28), nil, 1, []int{2, 3})
}

// Open pages are passed over; those of the save ahead of it are free again.
func TestSavesOneBehindTheOther(t *testing.T) {
	d := checkSave(t, "first", blank(8), blobOf(60, 1), nil, 1, []int{2, 3, 4})
	d = checkSave(t, "second", d, blobOf(30, 2), nil, 2, []int{5, 6})
	d = checkSave(t, "third", d, blobOf(108, 3), nil, 3, []int{2, 3, 4, 7})
	d = checkSave(t, "fourth", d, "", nil, 4, nil)
	d = checkSave(t, "fifth", d, blobOf(6*27, 4), nil, 5, run(2, 8))
	refused(t, "no page is left", d, "a", nil, impl.ErrFull)
	d = checkSave(t, "sixth", d, "", nil, 6, nil)
	d = checkSave(t, "seventh", d, "", nil, 7, nil)
	d = checkSave(t, "eighth", d, "abc", []int{2, 4}, 8, []int{3})
	d = checkSave(t, "ninth", d, blobOf(54, 5), []int{2, 4}, 9, []int{5, 6})
	checkSave(t, "tenth", d, blobOf(54, 5), []int{6, 3, 3}, 10, []int{2, 4})
}

// What is open tells the next Epoch, and its sector the next meta's.
func TestSaveOverWhatIsOpen(t *testing.T) {
	d := laid(laid(blank(9), 0, 9, []int{7, 2}, blobOf(40, 1)), 1, 4, []int{3}, "old")
	checkSave(t, "of two the greater one", d, blobOf(40, 2), nil, 10, []int{3, 4})
	checkSave(t, "with a pin of the other one", d, blobOf(40, 2), []int{3}, 10, []int{4, 5})
	broken := put(d, 2, sector(0))
	checkSave(t, "the greater one is not whole", broken, blobOf(40, 2), nil, 5, []int{2, 4})
	checkSave(t, "none is whole", put(broken, 3, sector(0)), blobOf(40, 2), nil, 1, []int{2, 3})
	same := laid(laid(blank(9), 0, 4, []int{7, 2}, blobOf(40, 1)), 1, 4, []int{3}, "old")
	checkSave(t, "two of the same Epoch", same, blobOf(40, 2), nil, 5, []int{3, 4})
	checkSave(t, "far on", laid(blank(6), 1, 65535, []int{3}, "a"), "b", nil, 65536, []int{2})
}

func TestLastEpoch(t *testing.T) {
	for at := range 2 {
		d := laid(blank(6), at, lastEpoch-1, []int{3}, "a")
		if at == 0 {
			d = checkSave(t, "the last Epoch", d, "last", nil, lastEpoch, []int{2})
			refused(t, "behind the last save", d, "more", nil, impl.ErrFull)
		}
		d = laid(blank(6), at, lastEpoch, []int{3}, "a")
		for _, blob := range []string{"", "a", blobOf(54, 1), blobOf(4*27, 1)} {
			refused(t, "behind the last Epoch", d, blob, nil, impl.ErrFull)
		}
		refused(t, "behind the last Epoch, too much", d, blobOf(impl.MaxBlob+1, 1), nil, impl.ErrRange)
		d = put(d, 3, sector(0))
		checkSave(t, "the last Epoch is not whole", d, "b", nil, 1, []int{2})
	}
}

func TestJustEnoughPages(t *testing.T) {
	for _, n := range []int{4, 5, 8, 20, 113} {
		room := (n - 2) * 27
		what := fmt.Sprint(n, " sectors")
		checkSave(t, what, blank(n), blobOf(room, 1), nil, 1, run(2, n))
		refused(t, what, blank(n), blobOf(room+1, 1), nil, impl.ErrFull)
		last := checkSave(t, what, blank(n), blobOf(room-27, 1), []int{2}, 1, run(3, n))
		refused(t, what, blank(n), blobOf(room-26, 1), []int{n - 1}, impl.ErrFull)
		checkSave(t, what+", again", last, blobOf(27, 2), nil, 2, []int{2})
		refused(t, what+", again", last, blobOf(28, 2), nil, impl.ErrFull)
		refused(t, what+", again, pinned", last, "a", []int{2}, impl.ErrFull)
		checkSave(t, what+", again, without pages", last, "", []int{2}, 2, nil)
		refused(t, what+", all pinned", blank(n), "a", run(2, n), impl.ErrFull)
		checkSave(t, what+", all pinned, without pages", blank(n), "", run(2, n), 1, nil)
	}
	checkSave(t, "MaxBlob in 114 sectors", blank(114), blobOf(impl.MaxBlob, 1), nil, 1, run(2, 114))
	refused(t, "MaxBlob in 113 sectors", blank(113), blobOf(impl.MaxBlob, 1), nil, impl.ErrFull)
	refused(t, "MaxBlob with a pin in 114 sectors", blank(114), blobOf(impl.MaxBlob, 1), []int{50}, impl.ErrFull)
	d := checkSave(t, "MaxBlob", blank(impl.MaxSectors), blobOf(impl.MaxBlob, 1), run(2, 32), 1, run(32, 144))
	checkSave(t, "MaxBlob again", d, blobOf(impl.MaxBlob, 2), run(2, 32), 2, run(144, 256))
	refused(t, "MaxBlob again, one page fewer", d, blobOf(impl.MaxBlob, 2), append(run(2, 32), 200), impl.ErrFull)
}

// Numbers that are no pages of the disk are pinned to no end, those of the metas too.
func TestPins(t *testing.T) {
	wild := []int{0, 1, -1, 8, 9, 255, 256, 258, 2 + 1<<32, math.MinInt, math.MinInt + 2, math.MaxInt}
	checkSave(t, "wild pins", blank(8), blobOf(54, 1), wild, 1, []int{2, 3})
	checkSave(t, "wild pins and one", blank(8), blobOf(54, 1), append(wild, 3, 3), 1, []int{2, 4})
	checkSave(t, "empty pins", blank(8), blobOf(54, 1), []int{}, 1, []int{2, 3})
	for _, n := range []int{impl.MaxList - 1, impl.MaxList} {
		checkSave(t, fmt.Sprint(n, " pins"), blank(8), blobOf(54, 1), slices.Repeat([]int{2}, n), 1, []int{3, 4})
		checkSave(t, fmt.Sprint(n, " pins, the last one counts"), blank(8), "a", append(slices.Repeat([]int{3}, n-1), 2), 1, []int{4})
	}
	d := checkSave(t, "first", blank(8), blobOf(54, 1), nil, 1, []int{2, 3})
	checkSave(t, "open and pinned", d, blobOf(54, 2), []int{2, 3, 5}, 2, []int{4, 6})
}

func TestSaveCodes(t *testing.T) {
	small, last := blank(3), laid(blank(4), 1, lastEpoch, nil, "")
	full := checkSave(t, "a full disk", blank(4), blobOf(54, 1), nil, 1, []int{2, 3})
	longBlob, longPins := strings.Repeat("a", impl.MaxText+1), make([]int, impl.MaxList+1)
	for i, bad := range append(wrongDisks(), small, blank(4), full, last) {
		what := fmt.Sprint("disk ", i)
		refused(t, what+", a long blob", bad, longBlob, nil, impl.ErrLong)
		refused(t, what+", long pins", bad, "a", longPins, impl.ErrLong)
		refused(t, what+", both long", bad, longBlob, longPins, impl.ErrLong)
		refused(t, what+", great blob and long pins", bad, blobOf(impl.MaxBlob+1, 1), longPins, impl.ErrLong)
	}
	for i, bad := range wrongDisks() {
		for _, blob := range []string{"", "a", blobOf(impl.MaxBlob+1, 1), blobOf(impl.MaxText, 1)} {
			refused(t, fmt.Sprint("wrong disk ", i), bad, blob, nil, impl.ErrBad)
			refused(t, fmt.Sprint("wrong disk ", i), bad, blob, run(0, impl.MaxList), impl.ErrBad)
		}
	}
	for n := 1; n < 4; n++ {
		for _, blob := range []string{"", "a", blobOf(impl.MaxBlob, 1), blobOf(impl.MaxBlob+1, 1)} {
			refused(t, fmt.Sprint(n, " sectors"), blank(n), blob, nil, impl.ErrRange)
			refused(t, fmt.Sprint(n, " sectors"), blank(n), blob, []int{2, 3}, impl.ErrRange)
		}
	}
	for _, d := range []impl.Disk{blank(4), full, last, blank(impl.MaxSectors), laid(blank(8), 0, lastEpoch, []int{2}, "a")} {
		for _, size := range []int{impl.MaxBlob + 1, impl.MaxBlob + 27, impl.MaxText} {
			refused(t, fmt.Sprint(size, " bytes"), d, blobOf(size, 1), nil, impl.ErrRange)
		}
	}
	refused(t, "great blob on a full disk", full, blobOf(impl.MaxBlob, 1), nil, impl.ErrFull)
}

// Writes ahead of a save count in what is open, are sure with its pages, and take their room in the Cache.
func TestSaveWithACache(t *testing.T) {
	d := laid(blank(8), 1, 1, []int{2, 3}, blobOf(40, 1))
	d.Cache = []impl.Pending{pending(7, 'x'), {At: 0, Data: rawMeta(impl.Meta{Epoch: 2, First: 5, Length: 3})}, {At: 5, Data: rawPage(5, 0, 2, "new")}, pending(3, 'y')}
	next := checkSave(t, "a newer one in the Cache", d, blobOf(81, 2), nil, 3, []int{2, 3, 4})
	if next.Sure[7] != sector('x') || next.Sure[5] != rawPage(5, 0, 2, "new") || next.Sure[0] != rawMeta(impl.Meta{Epoch: 2, First: 5, Length: 3}) {
		t.Error("what was written ahead of a save is lost")
	}
	d.Cache = []impl.Pending{pending(3, 'y')}
	checkSave(t, "a page is gone in the Cache", d, blobOf(81, 2), nil, 1, []int{2, 3, 4})
	d.Cache = nil
	for _, length := range []int{1, 27, 28, 4 * 27} {
		need := (length + 26) / 27
		d.Cache = slices.Repeat([]impl.Pending{pending(0, 'm')}, impl.MaxList-need)
		next := checkSave(t, "just enough room in the Cache", d, blobOf(length, 2), nil, 2, run(4, 4+need))
		if next.Sure[1] != d.Sure[1] {
			t.Error("the open meta was changed")
		}
		d.Cache = append(d.Cache, pending(0, 'm'))
		checkCacheTooLong(t, d, blobOf(length, 2))
	}
	d.Cache = manyPending(impl.MaxList)
	checkSave(t, "no room, and no page", d, "", nil, 2, nil)
	checkCacheTooLong(t, d, "a")
	refused(t, "no room, nor pages", d, blobOf(5*27, 1), nil, impl.ErrFull)
	refused(t, "no room, great blob", d, blobOf(impl.MaxBlob+1, 1), nil, impl.ErrRange)
	d.Cache = manyPending(impl.MaxList + 1)
	refused(t, "a Cache that is wrong", d, "", nil, impl.ErrBad)
}

// The acts are told all the same: SavePlan does none of them.
func checkCacheTooLong(t *testing.T, d impl.Disk, blob string) {
	t.Helper()
	acts, c := impl.SavePlan(d, blob, nil)
	code(t, "SavePlan with too long a Cache", c, impl.OK)
	if !sameActs(acts, wantedActs(2, run(4, 4+(len(blob)+26)/27), blob)) {
		t.Error("SavePlan with too long a Cache", acts)
	}
	next, c := impl.SaveStore(d, blob, nil)
	code(t, "SaveStore with too long a Cache", c, impl.ErrFull)
	if !sameDisk(next, impl.Disk{}) {
		t.Error("SaveStore with too long a Cache has a code and a disk")
	}
}

// lowestFree tells pages by a set, not by lists.
func lowestFree(sectors, need int, taken ...[]int) []int {
	set := map[int]bool{}
	for _, list := range taken {
		for _, page := range list {
			set[page] = true
		}
	}
	var free []int
	for page := 2; page < sectors && len(free) < need; page++ {
		if !set[page] {
			free = append(free, page)
		}
	}
	return free
}

func randomPins(d *dice, sectors int) []int {
	pins := make([]int, d.below(5))
	for i := range pins {
		pins[i] = d.below(sectors+2) - 1
	}
	return pins
}

func TestRandomSavesAgainstTheModel(t *testing.T) {
	d := &dice{state: 11}
	for range 150 {
		sectors := 4 + d.below(20)
		now, store := impl.Opened{}, blank(sectors)
		for range 12 {
			blob := blobOf(d.below(sectors*20), d.below(256))
			pins := randomPins(d, sectors)
			need := (len(blob) + 26) / 27
			pages := lowestFree(sectors, need, now.Pages, pins)
			if len(pages) < need {
				refused(t, "too few pages", store, blob, pins, impl.ErrFull)
				continue
			}
			store = checkSave(t, "a random save", store, blob, pins, now.Epoch+1, pages)
			now = impl.Opened{Epoch: now.Epoch + 1, Pages: pages, Blob: blob}
		}
	}
}
