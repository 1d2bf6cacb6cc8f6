package tests

import (
	"math/bits"
	"slices"
	"testing"

	"loop.example/g00208/impl"
)

// backup is the program's own way from what is right to pieces.
func backup(t *testing.T, list []impl.Table, data []impl.Data) []string {
	t.Helper()
	dump, code := impl.DumpBytes(list, data)
	if code != impl.OK || len(dump) > mostSealed {
		t.Fatal("a dump of", len(dump), "bytes", impl.CodeWord(code))
	}
	seal, code := impl.SealBytes(dump)
	if code != impl.OK {
		t.Fatal("SealBytes", impl.CodeWord(code))
	}
	pieces, code := impl.BackupChunks(seal)
	if code != impl.OK {
		t.Fatal("BackupChunks", impl.CodeWord(code))
	}
	return pieces
}

// putTogether is the program's own way from pieces to a restore.
func putTogether(t *testing.T, pieces []string) impl.Restore {
	t.Helper()
	var r impl.Restore
	for _, piece := range pieces {
		next, code := impl.RestoreChunk(r, piece)
		if code != impl.OK || !impl.RestoreOK(next) {
			t.Fatal("RestoreChunk", shownRestore(r), len(piece), impl.CodeWord(code))
		}
		r = next
	}
	return r
}

func wantBack(t *testing.T, list []impl.Table, data []impl.Data) {
	t.Helper()
	gotList, gotData, code := impl.RestoreEnd(putTogether(t, backup(t, list, data)))
	if code != impl.OK || !sameTables(gotList, list) || !sameData(gotData, data) {
		t.Fatalf("%q: %.300v %.300s came back of %.300v %.300s", impl.CodeWord(code), gotList, shownData(gotData), list, shownData(data))
	}
}

func TestBackupsGiveBackWhatThereWas(t *testing.T) {
	wantBack(t, nil, nil)
	wantBack(t, backedTables(), backedData())
	wantBack(t, ruledTables(), ruledData())
	for _, list := range rightCatalogs() {
		wantBack(t, list, emptyData(list))
	}
	for _, x := range rightTables() {
		wantBack(t, []impl.Table{x}, emptyData([]impl.Table{x}))
		wantBack(t, []impl.Table{x}, rolledData(&dice{state: 1720}, []impl.Table{x}, 9))
	}
	wantBack(t, manyTables(impl.MaxTables), fullData(impl.MaxTables))
	d := &dice{state: 1721}
	for range 300 {
		list := rolledIndexed(d, typedTables())
		wantBack(t, list, rolledData(d, list, 12))
	}
}

func TestBackupsOfTheGreatestDumps(t *testing.T) {
	for size := mostSealed - 70; size <= mostSealed; size++ {
		list, data := wideData(t, size)
		wantBack(t, list, data)
	}
	list, data := wideData(t, mostSealed+1)
	dump := wantDump(t, list, data, impl.OK)
	wantSeal(t, dump, impl.ErrLong)
	wantLoad(t, dump, impl.OK)
}

// smallSeals are seals of some dumps.
func smallSeals(t *testing.T) []string {
	t.Helper()
	var list []string
	for _, dump := range someDumps(t) {
		list = append(list, string(wantSeal(t, dump, impl.OK)))
	}
	return list
}

// notOpened wants bytes of a backup that is not whole to be told so by all that look at them.
func notOpened(t *testing.T, bytes string, what ...any) {
	t.Helper()
	if opened, code := impl.OpenSeal([]byte(bytes)); code == impl.OK || opened != nil {
		t.Fatal("OpenSeal opens", what)
	}
	list, data, code := impl.RestoreEnd(whole(bytes))
	if code == impl.OK || list != nil || data != nil {
		t.Fatal("RestoreEnd opens", what)
	}
}

func TestBackupsThatAreCutOff(t *testing.T) {
	for _, seal := range smallSeals(t) {
		for size := range len(seal) {
			notOpened(t, seal[:size], "a seal cut off at", size)
			wantOpen(t, []byte(seal[:size]), impl.ErrForm)
			if list, _ := wantEnd(t, putTogether(t, wantChunks(t, []byte(seal[:size]), impl.OK)), impl.ErrForm); list != nil {
				t.Fatal("opened", size)
			}
		}
		pieces := wantChunks(t, []byte(seal), impl.OK)
		for count := range pieces {
			wantEnd(t, putTogether(t, pieces[:count]), impl.ErrForm)
		}
	}
}

// bitsTurned has bits of a pattern turned from one on, each byte's lowest first.
func bitsTurned(seal string, from int, pattern uint32) []byte {
	b := []byte(seal)
	for i := range 32 {
		if pattern>>i&1 == 1 {
			b[(from+i)/8] ^= 1 << ((from + i) % 8)
		}
	}
	return b
}

func TestBackupsWithOneBitTurned(t *testing.T) {
	for _, seal := range smallSeals(t) {
		for from := range 8 * len(seal) {
			b := bitsTurned(seal, from, 1)
			notOpened(t, string(b), "bit", from)
			want := impl.ErrSum
			if from < 8*6 {
				want = impl.ErrForm
			}
			wantOpen(t, b, want)
		}
	}
}

// Patterns begin with a bit that is turned; from which one on is where the pattern stands.
func TestBackupsWithBitsTurnedCloseToEachOther(t *testing.T) {
	d := &dice{state: 1722}
	patterns := []uint32{1<<32 - 1, 1<<31 + 1, 1<<8 + 1, 1<<16 + 1, 0xEDB88321, 0xDB710641, 0x80000001, 0xAAAAAAAB, 0x55555555, 0x01010101, 3, 7, 255}
	for _, seal := range smallSeals(t) {
		all := 8 * len(seal)
		for from := range all {
			rolled := []uint32{uint32(d.below(1<<30))<<1 | 1, uint32(d.below(1<<15))<<1 | 1<<31 | 1, uint32(d.below(128))<<1 | 1}
			for _, pattern := range append(rolled, patterns...) {
				if from+bits.Len32(pattern) > all {
					continue
				}
				b := bitsTurned(seal, from, pattern)
				if opened, code := impl.OpenSeal(b); code == impl.OK || opened != nil {
					t.Fatalf("bits %x turned from %d on: opened", pattern, from)
				}
			}
		}
	}
}

// All patterns of few bits, wherever they begin in a short seal.
func TestAllPatternsOfBitsTurned(t *testing.T) {
	for _, bytes := range []string{"", "h", "hello"} {
		seal := string(sealOf([]byte(bytes)))
		all := 8 * len(seal)
		for from := range all {
			for pattern := uint32(1); pattern < 1<<11; pattern += 2 {
				for _, spread := range []uint32{pattern, pattern | 1<<31, pattern<<20 | 1} {
					if from+bits.Len32(spread) > all {
						continue
					}
					b := bitsTurned(seal, from, spread)
					if opened, code := impl.OpenSeal(b); code != impl.ErrForm && code != impl.ErrSum || opened != nil {
						t.Fatalf("bits %x turned from %d on in a seal of %q: opened", spread, from, bytes)
					}
				}
			}
		}
	}
}

// A great backup in which bits are turned here and there.
func TestGreatBackupsWithBitsTurned(t *testing.T) {
	list, data := wideData(t, mostSealed)
	seal := string(sealOf(wantDump(t, list, data, impl.OK)))
	d := &dice{state: 1723}
	for range 300 {
		pattern := uint32(d.below(1<<30))<<1 | 1
		from := d.below(8*len(seal) - 32)
		b := bitsTurned(seal, from, pattern)
		notOpened(t, string(b), "a great backup, bits", pattern, "from", from)
		if from%5 == 0 {
			pieces, _ := impl.BackupChunks(b)
			wantEnd(t, putTogether(t, pieces), map[bool]int{true: impl.ErrForm, false: impl.ErrSum}[from < 8*6])
		}
	}
	for range 300 {
		notOpened(t, seal[:d.below(len(seal))], "a great backup that is cut off")
	}
}

// Pieces that stand in for each other are found, if what they hold differs.
func TestPiecesOfAnotherBackup(t *testing.T) {
	d := &dice{state: 1724}
	list := typedTables()
	for range 100 {
		first, second := rolledData(d, list, 9), rolledData(d, list, 9)
		a, b := backup(t, list, first), backup(t, list, second)
		at := d.below(min(len(a), len(b)))
		mixed := append(slices.Clone(a[:at]), b[at:]...)
		if slices.Equal(mixed, a) || slices.Equal(mixed, b) {
			continue
		}
		bytes := putTogether(t, mixed).Bytes
		_, by := openByWords([]byte(bytes))
		wantOpen(t, []byte(bytes), by)
		if by == impl.OK {
			t.Error("a backup mixed from two is opened by the words")
		}
	}
}
