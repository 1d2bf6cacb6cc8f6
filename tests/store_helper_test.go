package tests

import (
	"encoding/binary"
	"hash/crc32"
	"slices"
	"strings"
	"testing"

	"loop.example/g00208/impl"
)

const lastEpoch = 4294967295

// sealed has noughts behind the body up to 28 bytes, then the sum of what is ahead and these.
func sealed(ahead, body []byte) string {
	b := append(slices.Clone(body), make([]byte, 28-len(body))...)
	sum := crc32.ChecksumIEEE(append(slices.Clone(ahead), b...))
	return string(binary.BigEndian.AppendUint32(b, sum))
}

// rawPage tells a page's sector by the document's words alone, whatever its numbers are.
func rawPage(page, next, epoch int, data string) string {
	ahead := binary.BigEndian.AppendUint32([]byte{byte(page)}, uint32(epoch))
	return sealed(ahead, append([]byte{byte(next)}, data...))
}

// rawMeta likewise; what stands behind Length should be noughts.
func rawMeta(m impl.Meta, behind ...byte) string {
	b := binary.BigEndian.AppendUint32([]byte("MT"), uint32(m.Epoch))
	b = binary.BigEndian.AppendUint16(append(b, byte(m.First)), uint16(m.Length))
	return sealed(nil, append(b, behind...))
}

// blobOf has bytes of many kinds, none of them twice in a run of 27.
func blobOf(length, seed int) string {
	b := make([]byte, length)
	for i := range b {
		b[i] = byte(i*7 + seed)
	}
	return string(b)
}

func piecesOf(blob string) []string {
	var pieces []string
	for piece := range slices.Chunk([]byte(blob), 27) {
		pieces = append(pieces, string(piece))
	}
	return pieces
}

func epochMeta(epoch int, pages []int, blob string) impl.Meta {
	m := impl.Meta{Epoch: epoch, Length: len(blob)}
	if len(pages) > 0 {
		m.First = pages[0]
	}
	return m
}

// pageActs are the writes of a blob's pages.
func pageActs(epoch int, pages []int, blob string) []impl.DiskAct {
	var acts []impl.DiskAct
	for i, piece := range piecesOf(blob) {
		next := 0
		if i+1 < len(pages) {
			next = pages[i+1]
		}
		acts = append(acts, impl.DiskAct{Kind: impl.DkWrite, At: pages[i], Data: rawPage(pages[i], next, epoch, piece)})
	}
	return acts
}

// wantedActs are those of a save, told by the document's words.
func wantedActs(epoch int, pages []int, blob string) []impl.DiskAct {
	meta := impl.DiskAct{Kind: impl.DkWrite, At: epoch % 2, Data: rawMeta(epochMeta(epoch, pages, blob))}
	return append(pageActs(epoch, pages, blob), syncAct, meta, syncAct)
}

// laid has a blob's pages and its meta in a disk's sure sectors.
func laid(d impl.Disk, metaAt, epoch int, pages []int, blob string) impl.Disk {
	d = cloneDisk(d)
	for _, a := range pageActs(epoch, pages, blob) {
		d.Sure[a.At] = a.Data
	}
	d.Sure[metaAt] = rawMeta(epochMeta(epoch, pages, blob))
	return d
}

// put has other bytes in a sure sector.
func put(d impl.Disk, at int, data string) impl.Disk {
	d = cloneDisk(d)
	d.Sure[at] = data
	return d
}

func blank(sectors int) impl.Disk { return disk(strings.Repeat("\x00", sectors)) }

// run is numbers from one on, below another one.
func run(from, to int) []int {
	var list []int
	for n := from; n < to; n++ {
		list = append(list, n)
	}
	return list
}

func sameOpened(a, b impl.Opened) bool {
	return a.Epoch == b.Epoch && a.Blob == b.Blob && slices.Equal(a.Pages, b.Pages)
}

func opened(t *testing.T, what string, d impl.Disk) impl.Opened {
	t.Helper()
	o, c := impl.OpenStore(d)
	code(t, what+": OpenStore", c, impl.OK)
	return o
}

func wantOpened(t *testing.T, what string, d impl.Disk, want impl.Opened) {
	t.Helper()
	if o := opened(t, what, d); !sameOpened(o, want) {
		t.Errorf("%s: open is %.200v, want %.200v", what, o, want)
	}
}

func sameActs(a, b []impl.DiskAct) bool {
	return slices.EqualFunc(a, b, func(x, y impl.DiskAct) bool {
		return x.Kind == y.Kind && x.At == y.At && x.Data == y.Data && len(x.Keep) == 0 && len(y.Keep) == 0
	})
}

// saved asks for a plan and for the disk behind it, and holds them against each other.
func saved(t *testing.T, what string, d impl.Disk, blob string, pinned []int) ([]impl.DiskAct, impl.Disk) {
	t.Helper()
	acts, c1 := impl.SavePlan(d, blob, pinned)
	code(t, what+": SavePlan", c1, impl.OK)
	next, c2 := impl.SaveStore(d, blob, pinned)
	code(t, what+": SaveStore", c2, impl.OK)
	if !sameDisk(next, played(t, d, acts)) || len(next.Cache) != 0 {
		t.Errorf("%s: the disk is not the one behind the acts", what)
	}
	return acts, next
}

// played is the disk behind some acts, all of which must go well.
func played(t *testing.T, d impl.Disk, acts []impl.DiskAct) impl.Disk {
	t.Helper()
	for i, a := range acts {
		next, reply, c := impl.DiskStep(d, a)
		if c != impl.OK || reply.Code != impl.OK {
			t.Fatalf("act %d of a save: %d %d", i, c, reply.Code)
		}
		d = next
	}
	return d
}

// refused asks for a plan and for the disk behind it, which are both to have a code and nothing else.
func refused(t *testing.T, what string, d impl.Disk, blob string, pinned []int, want int) {
	t.Helper()
	acts, c := impl.SavePlan(d, blob, pinned)
	code(t, what+": SavePlan", c, want)
	next, c2 := impl.SaveStore(d, blob, pinned)
	code(t, what+": SaveStore", c2, want)
	if len(acts) != 0 || !sameDisk(next, impl.Disk{}) {
		t.Errorf("%s: a code, and more than that", what)
	}
}
