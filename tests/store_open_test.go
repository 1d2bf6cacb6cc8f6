package tests

import (
	"fmt"
	"slices"
	"strings"
	"testing"

	"loop.example/g00208/impl"
)

func TestOpenNothing(t *testing.T) {
	for _, n := range []int{4, 5, 255, impl.MaxSectors} {
		wantOpened(t, fmt.Sprint(n, " sectors of noughts"), blank(n), impl.Opened{})
		wantOpened(t, fmt.Sprint(n, " other sectors"), disk(strings.Repeat("M", n)), impl.Opened{})
	}
}

// One meta, its pages in any places and in any order.
func TestOpenOneMeta(t *testing.T) {
	mixed := []int{255, 2, 254, 3, 128}
	for _, length := range []int{0, 1, 26, 27, 28, 53, 54, 55, 5*27 - 1, 5 * 27} {
		blob := blobOf(length, length)
		pages := mixed[:len(piecesOf(blob))]
		for at := range 2 {
			for _, epoch := range []int{1, 2, 77, lastEpoch} {
				what := fmt.Sprintf("%d bytes, meta at %d, epoch %d", length, at, epoch)
				wantOpened(t, what, laid(blank(impl.MaxSectors), at, epoch, pages, blob), impl.Opened{Epoch: epoch, Pages: pages, Blob: blob})
			}
		}
	}
	blob := blobOf(impl.MaxBlob, 5)
	pages := run(144, 256)
	slices.Reverse(pages)
	wantOpened(t, "MaxBlob", laid(blank(impl.MaxSectors), 1, 3, pages, blob), impl.Opened{Epoch: 3, Pages: pages, Blob: blob})
	wantOpened(t, "4 sectors", laid(blank(4), 0, 6, []int{3, 2}, blobOf(54, 1)), impl.Opened{Epoch: 6, Pages: []int{3, 2}, Blob: blobOf(54, 1)})
}

func TestOpenCutsToLength(t *testing.T) {
	full := blobOf(54, 9)
	d := laid(blank(8), 0, 2, []int{4, 6}, full)
	for length := 28; length <= 54; length++ {
		cut := put(d, 0, rawMeta(impl.Meta{Epoch: 2, First: 4, Length: length}))
		wantOpened(t, fmt.Sprint("cut to ", length), cut, impl.Opened{Epoch: 2, Pages: []int{4, 6}, Blob: full[:length]})
	}
	// one page fewer or one more than there are
	for _, length := range []int{1, 26, 27, 55, 81, impl.MaxBlob} {
		wrong := put(d, 0, rawMeta(impl.Meta{Epoch: 2, First: 4, Length: length}))
		wantOpened(t, fmt.Sprint("as if it had ", length), wrong, impl.Opened{})
	}
	wantOpened(t, "as if it had none", put(d, 0, rawMeta(impl.Meta{Epoch: 2})), impl.Opened{Epoch: 2})
}

// Of three pages 5, 3, 7 one is wrong.
func TestOpenPagesThatAreNotWhole(t *testing.T) {
	blob := blobOf(70, 2)
	pages := []int{5, 3, 7}
	d := laid(blank(9), 1, 3, pages, blob)
	wantOpened(t, "whole", d, impl.Opened{Epoch: 3, Pages: pages, Blob: blob})
	p := piecesOf(blob)
	for _, c := range []struct {
		what string
		d    impl.Disk
	}{
		{"the last leads to the first", put(d, 7, rawPage(7, 5, 3, p[2]))},
		{"the last leads to itself", put(d, 7, rawPage(7, 7, 3, p[2]))},
		{"the second leads to the first", put(d, 3, rawPage(3, 5, 3, p[1]))},
		{"the second leads to itself", put(d, 3, rawPage(3, 3, 3, p[1]))},
		{"the first leads to itself", put(d, 5, rawPage(5, 5, 3, p[0]))},
		{"the last leads on to a page", put(put(d, 7, rawPage(7, 8, 3, p[2])), 8, rawPage(8, 0, 3, "more"))},
		{"the last leads on to none", put(d, 7, rawPage(7, 8, 3, p[2]))},
		{"the last leads to 1", put(d, 7, rawPage(7, 1, 3, p[2]))},
		{"the last leads out of the disk", put(d, 7, rawPage(7, 9, 3, p[2]))},
		{"the last leads far out of the disk", put(d, 7, rawPage(7, 255, 3, p[2]))},
		{"the first leads to 1", put(d, 5, rawPage(5, 1, 3, p[0]))},
		{"the first leads out of the disk", put(d, 5, rawPage(5, 9, 3, p[0]))},
		{"the first leads to the end", put(d, 5, rawPage(5, 0, 3, p[0]))},
		{"the second leads to the end", put(d, 3, rawPage(3, 0, 3, p[1]))},
		{"the first leads past the second", put(d, 5, rawPage(5, 7, 3, p[0]))},
		{"the first is of the epoch ahead", put(d, 5, rawPage(5, 3, 2, p[0]))},
		{"the second is of the next epoch", put(d, 3, rawPage(3, 7, 4, p[1]))},
		{"the last is of another page", put(d, 7, rawPage(8, 0, 3, p[2]))},
		{"the first is noughts", put(d, 5, sector(0))},
		{"the last is noughts", put(d, 7, sector(0))},
		{"the meta leads to the second", put(d, 1, rawMeta(impl.Meta{Epoch: 3, First: 3, Length: 70}))},
		{"the meta leads out of the disk", put(d, 1, rawMeta(impl.Meta{Epoch: 3, First: 9, Length: 70}))},
		{"the meta leads far out of the disk", put(d, 1, rawMeta(impl.Meta{Epoch: 3, First: 255, Length: 70}))},
		{"the meta is of another epoch", put(d, 1, rawMeta(impl.Meta{Epoch: 4, First: 5, Length: 70}))},
		{"the meta has another sum", put(d, 1, rawMeta(impl.Meta{Epoch: 3, First: 5, Length: 70})[:31]+"\x00")},
		{"one sector fewer", impl.Disk{Sure: d.Sure[:7]}},
	} {
		wantOpened(t, c.what, c.d, impl.Opened{})
		old := laid(c.d, 0, 2, []int{2, 6}, "older than the other one, of two pages")
		wantOpened(t, c.what+", over an older one", old, impl.Opened{Epoch: 2, Pages: []int{2, 6}, Blob: "older than the other one, of two pages"})
		wantOpened(t, c.what+", over an older one without pages", put(c.d, 0, rawMeta(impl.Meta{Epoch: 1})), impl.Opened{Epoch: 1})
	}
	for _, at := range append([]int{1}, pages...) {
		for i := range impl.SectorSize {
			b := []byte(d.Sure[at])
			b[i] ^= 0x10
			wantOpened(t, fmt.Sprintf("byte %d of sector %d changed", i, at), put(d, at, string(b)), impl.Opened{})
		}
	}
}

func TestOpenTwoMetas(t *testing.T) {
	one := impl.Opened{Pages: []int{2, 4}, Blob: blobOf(30, 1)}
	two := impl.Opened{Pages: []int{3}, Blob: blobOf(20, 2)}
	none := impl.Opened{}
	for _, c := range []struct {
		first, second int
		a, b          impl.Opened // at sector 0, at sector 1
		sector        int         // whose is open
	}{
		{1, 2, one, two, 1}, {2, 1, one, two, 0}, {5, 5, one, two, 0}, {5, 5, two, one, 0}, {lastEpoch, lastEpoch, two, one, 0},
		{lastEpoch - 1, lastEpoch, one, two, 1}, {lastEpoch, 1, one, two, 0}, {255, 256, one, two, 1}, {256, 255, one, two, 0}, {65536, 255, one, two, 0},
		{1, 2, one, none, 1}, {2, 1, none, one, 0}, {3, 3, none, one, 0}, {3, 3, one, none, 0}, {8, 8, none, none, 0},
		{2, 4, one, two, 1}, {5, 3, one, two, 0}, {9, 1000, two, one, 1},
	} {
		d := laid(laid(blank(8), 0, c.first, c.a.Pages, c.a.Blob), 1, c.second, c.b.Pages, c.b.Blob)
		c.a.Epoch, c.b.Epoch = c.first, c.second
		want, other := c.a, c.b
		if c.sector == 1 {
			want, other = c.b, c.a
		}
		what := fmt.Sprintf("epochs %d and %d", c.first, c.second)
		wantOpened(t, what, d, want)
		// the other one alone, with the first one's meta wrong, then with its pages not whole
		wantOpened(t, what+", one wrong", put(d, c.sector, sector('x')), other)
		wantOpened(t, what+", the other wrong", put(d, 1-c.sector, sector('x')), want)
		wantOpened(t, what+", both wrong", put(put(d, 0, sector('x')), 1, sector(0)), none)
		if len(want.Pages) > 0 {
			wantOpened(t, what+", one not whole", put(d, want.Pages[0], sector(0)), other)
		}
		if len(other.Pages) > 0 {
			wantOpened(t, what+", the other not whole", put(d, other.Pages[0], sector(0)), want)
		}
	}
}

// Two metas of the same Epoch may lead to the same pages, if they tell other lengths.
func TestOpenTwoMetasOfOneEpoch(t *testing.T) {
	d := laid(blank(6), 0, 4, []int{2, 3}, blobOf(40, 1))
	d = put(d, 1, rawMeta(impl.Meta{Epoch: 4, First: 2, Length: 50}))
	wantOpened(t, "same pages", d, impl.Opened{Epoch: 4, Pages: []int{2, 3}, Blob: blobOf(40, 1)})
	d = put(d, 0, rawMeta(impl.Meta{Epoch: 4, First: 2, Length: 20}))
	wantOpened(t, "sector 0's is not whole", d, impl.Opened{Epoch: 4, Pages: []int{2, 3}, Blob: blobOf(40, 1) + strings.Repeat("\x00", 10)})
}

// What is written, but not sure, is read as any other.
func TestOpenReadsTheCache(t *testing.T) {
	blob := blobOf(40, 1)
	d := laid(blank(6), 1, 1, []int{2, 3}, blob)
	was := impl.Opened{Epoch: 1, Pages: []int{2, 3}, Blob: blob}
	for _, c := range []struct {
		what  string
		cache []impl.Pending
		want  impl.Opened
	}{
		{"other sectors", []impl.Pending{pending(0, 'x'), pending(4, 'x')}, was},
		{"a page is gone", []impl.Pending{pending(3, 'x')}, impl.Opened{}},
		{"a page is gone and back", []impl.Pending{pending(3, 'x'), {At: 3, Data: d.Sure[3]}}, was},
		{"the meta is gone", []impl.Pending{pending(1, 'x')}, impl.Opened{}},
		{"a new meta", []impl.Pending{{At: 0, Data: rawMeta(impl.Meta{Epoch: 2})}}, impl.Opened{Epoch: 2}},
		{"a new meta with a page", []impl.Pending{{At: 0, Data: rawMeta(impl.Meta{Epoch: 2, First: 5, Length: 3})}, {At: 5, Data: rawPage(5, 0, 2, "new")}}, impl.Opened{Epoch: 2, Pages: []int{5}, Blob: "new"}},
		{"a new meta whose page was written over", []impl.Pending{{At: 5, Data: rawPage(5, 0, 2, "new")}, {At: 0, Data: rawMeta(impl.Meta{Epoch: 2, First: 5, Length: 3})}, pending(5, 0)}, was},
	} {
		wantOpened(t, c.what, impl.Disk{Sure: d.Sure, Cache: c.cache}, c.want)
	}
	full := append(manyPending(impl.MaxList-1), impl.Pending{At: 0, Data: rawMeta(impl.Meta{Epoch: 7})})
	wantOpened(t, "a full cache", impl.Disk{Sure: d.Sure, Cache: full}, impl.Opened{Epoch: 7})
}

func checkNotOpened(t *testing.T, what string, d impl.Disk, want int) {
	t.Helper()
	o, c := impl.OpenStore(d)
	code(t, what+": OpenStore", c, want)
	if !sameOpened(o, impl.Opened{}) {
		t.Errorf("%s: a code and %v", what, o)
	}
}

func TestOpenCodes(t *testing.T) {
	for i, d := range wrongDisks() {
		checkNotOpened(t, fmt.Sprint("wrong disk ", i), d, impl.ErrBad)
	}
	for n := 1; n < 4; n++ {
		checkNotOpened(t, fmt.Sprint(n, " sectors"), blank(n), impl.ErrRange)
	}
	d := laid(blank(4), 1, 1, []int{2}, "a")
	checkNotOpened(t, "3 sectors with a right meta", impl.Disk{Sure: d.Sure[:3]}, impl.ErrRange)
	checkNotOpened(t, "3 sectors, one of them short", impl.Disk{Sure: append(slices.Clone(d.Sure[:2]), "short")}, impl.ErrBad)
	wantOpened(t, "4 sectors", d, impl.Opened{Epoch: 1, Pages: []int{2}, Blob: "a"})
}
