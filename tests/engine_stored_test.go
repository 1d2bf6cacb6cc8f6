package tests

import (
	"fmt"
	"math"
	"slices"
	"strings"
	"testing"

	"loop.example/g00208/impl"
)

// storing is a disk that a blob is saved to, twice where it has room: both metas are in use then.
func storing(t *testing.T, sectors int, blob string) impl.Disk {
	t.Helper()
	_, d := saved(t, "an older blob", blank(sectors), "older", nil)
	_, d = saved(t, "a blob", d, blob, nil)
	return d
}

func storedTables() ([]impl.Table, []impl.Data) {
	return ruledTables(), ruledData()
}

func TestStoredState(t *testing.T) {
	list, data := storedTables()
	dump, code := dumpByWords(list, data)
	if code != impl.OK {
		t.Fatal("no dump", shownData(data))
	}
	blob := string(sealOf(dump))
	d := storing(t, 100, blob)
	wantStored(t, "saved", d, list, data, impl.OK)
	for _, sectors := range []int{100, 101, impl.MaxSectors} {
		wantStored(t, "laid by hand", laid(blank(sectors), 1, 4294967295, run(2, 2+len(piecesOf(blob))), blob), list, data, impl.OK)
		wantStored(t, "laid at its end", laid(blank(sectors), 0, 9, run(sectors-len(piecesOf(blob)), sectors), blob), list, data, impl.OK)
	}
	nothing := string(sealOf([]byte{0}))
	wantStored(t, "of no tables", storing(t, 6, nothing), nil, nil, impl.OK)
	wantStored(t, "of no tables, ahead of tables", laid(d, 1, 1, nil, ""), list, data, impl.OK)
}

// A disk of Epoch 0 has nothing, however many sectors it has and whatever is written on them.
func TestDisksThatHoldNothing(t *testing.T) {
	for _, sectors := range []int{4, 5, 40, impl.MaxSectors} {
		wantStored(t, "new", blank(sectors), nil, nil, impl.OK)
		wantStored(t, "no metas", disk(strings.Repeat("M", sectors)), nil, nil, impl.OK)
		wantStored(t, "a meta in the wrong place", put(blank(sectors), 2, rawMeta(impl.Meta{Epoch: 1})), nil, nil, impl.OK)
		wantStored(t, "a meta of Epoch 0", put(blank(sectors), 0, rawMeta(impl.Meta{})), nil, nil, impl.OK)
	}
	list, data := storedTables()
	dump, _ := dumpByWords(list, data)
	blob := string(sealOf(dump))
	acts := wantedActs(1, run(2, 2+len(piecesOf(blob))), blob)
	for cut := range acts {
		broken := played(t, blank(100), acts[:cut])
		wantStored(t, fmt.Sprint("without a meta, cut ", cut), crashed(t, broken, nil), nil, nil, impl.OK)
	}
	d := storing(t, 100, blob)
	for at := range 2 {
		d = put(d, at, rawMeta(impl.Meta{Epoch: 3, First: 2, Length: 5}))
	}
	wantStored(t, "metas of no pages", d, nil, nil, impl.OK)
}

func TestDisksThatAreNone(t *testing.T) {
	for i, d := range wrongDisks() {
		wantStored(t, fmt.Sprint("wrong disk ", i), d, nil, nil, impl.ErrBad)
	}
	for _, count := range []int{1, 2, 3} {
		d := put(blank(count), 0, rawMeta(impl.Meta{Epoch: 1}))
		wantStored(t, fmt.Sprint(count, " sectors"), d, nil, nil, impl.ErrRange)
		for _, wrong := range []impl.Pending{{At: -1, Data: sector('x')}, {At: count, Data: sector('x')}, {At: math.MaxInt, Data: sector('x')}, {At: 0, Data: "x"}} {
			d := cloneDisk(d)
			d.Cache = []impl.Pending{wrong}
			wantStored(t, "few sectors, and not right", d, nil, nil, impl.ErrBad)
		}
	}
	// what is not right counts ahead of what is no sealed dump
	d := storing(t, 40, "no seal")
	d.Cache = []impl.Pending{{At: 40, Data: sector('x')}}
	wantStored(t, "no seal on a disk that is not right", d, nil, nil, impl.ErrBad)
	wantStored(t, "many writes", disk("abcd", manyPending(impl.MaxList+1)...), nil, nil, impl.ErrBad)
	wantStored(t, "as many writes as may be", disk("abcd", manyPending(impl.MaxList)...), nil, nil, impl.OK)
}

// blobsThatAreNoDump are no seals, seals of no dump, and dumps without a seal.
func blobsThatAreNoDump(dump []byte) []string {
	seal := string(sealOf(dump))
	list := []string{"", "B", "BK", string(dump), seal[1:], seal[:len(seal)-1], seal + "\x00", "bk" + seal[2:], seal + seal,
		string(rawSeal("BK", len(dump)+1, string(dump), 0)), string(rawSeal("BK", len(dump)-1, string(dump), 0)), string(rawSeal("KB", len(dump), string(dump), 0)),
		string(sealOf(nil)), string(sealOf([]byte{1})), string(sealOf(append(slices.Clone(dump), 0))), string(sealOf(dump[:len(dump)-1])), string(sealOf([]byte(seal))),
		string(sealOf(append([]byte{dump[0] + 1}, dump[1:]...))), string(sealOf(make([]byte, impl.MaxBlob-sealAround))), blobOf(impl.MaxBlob, 7)}
	for bit := range 8 {
		list = append(list, string(rawSeal("BK", len(dump), string(dump), 1<<(4*bit))), string(bitsTurned(seal, 1+bit*len(seal), 1)))
	}
	return list
}

func TestDisksWithoutASealedDump(t *testing.T) {
	dump, _ := dumpByWords(storedTables())
	for _, blob := range blobsThatAreNoDump(dump) {
		d := laid(blank(impl.MaxSectors), 0, 8, run(2, 2+len(piecesOf(blob))), blob)
		wantOpened(t, "no sealed dump", d, impl.Opened{Epoch: 8, Pages: run(2, 2+len(piecesOf(blob))), Blob: blob})
		wantStored(t, fmt.Sprintf("no sealed dump: %d bytes %.60q", len(blob), blob), d, nil, nil, impl.ErrForm)
	}
	empty := put(blank(4), 1, rawMeta(impl.Meta{Epoch: 1}))
	wantStored(t, "an empty blob of Epoch 1", empty, nil, nil, impl.ErrForm)
	notRight := rawDump(2, partOf("b(x int) key 1"), partOf("a(x int) key 1"))
	for _, bytes := range [][]byte{notRight, rawDump(1, partOf("a(x int) key 2")), rawDump(1, partOf("a(x int) key 1", rowInDump(one("null")))), rawDump(1, partOf("a(x int) key 1", rowInDump(one("1")), rowInDump(one("1"))))} {
		if _, _, code := loadByWords(bytes); code != impl.ErrForm {
			t.Fatalf("%q is a dump", bytes)
		}
		wantStored(t, fmt.Sprintf("%q", bytes), storing(t, 40, string(sealOf(bytes))), nil, nil, impl.ErrForm)
	}
}

// A dump whose seal is as long as a blob may be.
func TestStoredStateOfAGreatDump(t *testing.T) {
	list, data := wideData(t, impl.MaxBlob-sealAround)
	dump, _ := dumpByWords(list, data)
	if len(dump) != impl.MaxBlob-sealAround {
		t.Fatal("a dump of", len(dump))
	}
	wantStored(t, "great", storing(t, impl.MaxSectors, string(sealOf(dump))), list, data, impl.OK)
}

// What waits in the cache is read as what is sure is; a power cut takes it away.
func TestStoredStateOfAFullCache(t *testing.T) {
	list, data := storedTables()
	dump, _ := dumpByWords(list, data)
	older, _ := dumpByWords(list[:1], data[:1])
	blob := string(sealOf(dump))
	_, d := saved(t, "older", blank(100), string(sealOf(older)), nil)
	acts, code := impl.SavePlan(d, blob, nil)
	if code != impl.OK {
		t.Fatal("no room", impl.CodeWord(code))
	}
	var waits []impl.DiskAct
	for _, a := range acts {
		if a.Kind == impl.DkWrite {
			waits = append(waits, a)
		}
		whole := len(waits) == len(acts)-2
		d := played(t, d, waits)
		if len(d.Cache) != len(waits) {
			t.Fatal("nothing waits")
		}
		wanted, rows := list[:1], data[:1]
		if whole {
			wanted, rows = list, data
		}
		wantStored(t, fmt.Sprint(len(waits), " writes wait"), d, wanted, rows, impl.OK)
		wantStored(t, "behind a power cut", crashed(t, d, nil), list[:1], data[:1], impl.OK)
		wantStored(t, "behind one that keeps all", crashed(t, d, slices.Repeat([]bool{true}, 99)), wanted, rows, impl.OK)
	}
}

// Of two metas the greater Epoch counts, unless its pages are not whole; then the other one does.
func TestStoredStateOfTwoMetas(t *testing.T) {
	list, data := storedTables()
	dump, _ := dumpByWords(list, data)
	older, _ := dumpByWords(list[1:], data[1:])
	first, second := string(sealOf(older)), string(sealOf(dump))
	d := laid(blank(200), 0, 6, run(2, 2+len(piecesOf(first))), first)
	from := 2 + len(piecesOf(first))
	pages := run(from, from+len(piecesOf(second)))
	both := laid(d, 1, 7, pages, second)
	wantStored(t, "the greater Epoch", both, list, data, impl.OK)
	wantStored(t, "the lesser Epoch", laid(d, 1, 5, pages, second), list[1:], data[1:], impl.OK)
	wantStored(t, "the same Epoch", laid(d, 1, 6, pages, second), list[1:], data[1:], impl.OK)
	for _, page := range pages {
		wantStored(t, fmt.Sprint("page ", page, " is lost"), put(both, page, sector(0)), list[1:], data[1:], impl.OK)
	}
	noSeal := laid(d, 1, 7, run(from, from+1), "no seal")
	wantStored(t, "the greater Epoch's blob is no sealed dump", noSeal, nil, nil, impl.ErrForm)
}

// What an engine has on its disk, at every length of a run.
func TestStoredStateOfEngines(t *testing.T) {
	d := &dice{state: 1807}
	for range 12 {
		calls := rolledCalls(d, 40)
		for length := range len(calls) + 1 {
			e, _ := ranOn(t, manySectors, calls[:length])
			wantStored(t, "an engine's disk", e.Disk, e.Tables, e.Data, impl.OK)
		}
	}
}
