package tests

import (
	"runtime"
	"slices"
	"strings"
	"testing"

	"loop.example/g00208/impl"
)

func TestPieces(t *testing.T) {
	for _, c := range []struct {
		bytes  int
		pieces []int
	}{
		{0, nil}, {1, []int{1}}, {63, []int{63}}, {64, []int{64}}, {65, []int{64, 1}}, {127, []int{64, 63}}, {128, []int{64, 64}}, {129, []int{64, 64, 1}}, {192, []int{64, 64, 64}},
		{640, slices.Repeat([]int{64}, 10)}, {impl.MaxText - 1, append(slices.Repeat([]int{64}, 1023), 63)}, {impl.MaxText, slices.Repeat([]int{64}, 1024)},
	} {
		bytes := blobOf(c.bytes, 1)
		var sizes []int
		pieces := wantChunks(t, []byte(bytes), impl.OK)
		for _, piece := range pieces {
			sizes = append(sizes, len(piece))
		}
		if !slices.Equal(sizes, c.pieces) || strings.Join(pieces, "") != bytes {
			t.Errorf("%d bytes are in pieces of %v", c.bytes, sizes)
		}
	}
	wantChunks(t, make([]byte, impl.MaxText+1), impl.ErrLong)
	wantChunks(t, make([]byte, impl.MaxText+chunkSize), impl.ErrLong)
}

func TestPiecesOfAllLengths(t *testing.T) {
	for size := range 700 {
		wantChunks(t, []byte(blobOf(size, size)), impl.OK)
	}
}

// What works beside a call has ended when it answers.
func TestNobodyIsLeftBehind(t *testing.T) {
	before := runtime.NumGoroutine()
	for size := range 2000 {
		impl.BackupChunks(make([]byte, size))
	}
	if after := runtime.NumGoroutine(); after > before+100 {
		t.Error(after-before, "are left behind")
	}
}

// restoreOf has a Size that need not be its Bytes'.
func restoreOf(size, bytes int, done bool) impl.Restore {
	return impl.Restore{Size: size, Bytes: blobOf(bytes, 5), Done: done}
}

func TestRestoresThatAreRight(t *testing.T) {
	for _, size := range []int{0, 64, 128, 640, 65472, 65536} {
		wantRestore(t, restoreOf(size, size, false), true)
		wantRestore(t, restoreOf(size, size, true), true) // "unless it is Done": then nothing is asked of the size
	}
	for _, size := range []int{1, 2, 32, 63, 65, 96, 127, 129, 65473, 65535} {
		wantRestore(t, restoreOf(size, size, false), false)
		wantRestore(t, restoreOf(size, size, true), true)
	}
	for _, size := range []int{65537, 65600, 131072} {
		wantRestore(t, restoreOf(size, size, false), false)
		wantRestore(t, restoreOf(size, size, true), false)
	}
	for _, done := range []bool{false, true} {
		for _, bytes := range []int{0, 1, 64, 65, 128, 65536, 65600} {
			for _, size := range []int{least, least + 64, -65536, -64, -1, 0, 1, 64, 65, 128, 65536, 65600, 1<<32 + 64, greatest - 63, greatest} {
				if size != bytes {
					wantRestore(t, restoreOf(size, bytes, done), false)
				}
			}
		}
	}
}

func TestPiecesThatAreRestored(t *testing.T) {
	for _, size := range []int{0, 64, 128, 6400, 65472} {
		r := restoreOf(size, size, false)
		for _, chunk := range []string{"x", "\x00", blobOf(2, 2), blobOf(32, 4), blobOf(63, 1), blobOf(64, 2)} {
			next := wantChunk(t, r, chunk, impl.OK)
			if want := (impl.Restore{Size: size + len(chunk), Bytes: r.Bytes + chunk, Done: len(chunk) < chunkSize}); next != want {
				t.Errorf("%s, want %s", shownRestore(next), shownRestore(want))
			}
			wantRestore(t, next, true)
		}
	}
}

// Of two faults that meet the one that is named first counts.
func TestPiecesThatAreNotRestored(t *testing.T) {
	chunks := []string{"", "x", blobOf(63, 1), blobOf(64, 1), blobOf(65, 1), blobOf(128, 1), blobOf(impl.MaxText, 1)}
	long := []string{blobOf(impl.MaxText+1, 1), blobOf(2*impl.MaxText, 1)}
	wrong := []impl.Restore{restoreOf(1, 0, false), restoreOf(1, 1, false), restoreOf(-64, 0, false), restoreOf(0, 64, true), restoreOf(65600, 65600, false), restoreOf(65600, 65600, true), restoreOf(least, 0, true), restoreOf(greatest, 0, false), restoreOf(greatest-63, 64, false)}
	for _, r := range wrong {
		for _, chunk := range chunks {
			if got := wantChunk(t, r, chunk, impl.ErrBad); got != (impl.Restore{}) {
				t.Error("not an empty one", shownRestore(got))
			}
		}
		for _, chunk := range long {
			wantChunk(t, r, chunk, impl.ErrLong)
		}
	}
	for _, r := range []impl.Restore{restoreOf(0, 0, true), restoreOf(1, 1, true), restoreOf(64, 64, true), restoreOf(100, 100, true), restoreOf(65536, 65536, true)} {
		for _, chunk := range chunks {
			if got := wantChunk(t, r, chunk, impl.ErrClosed); got != r {
				t.Error("not the restore as it was", shownRestore(got))
			}
		}
		for _, chunk := range long {
			wantChunk(t, r, chunk, impl.ErrLong)
		}
	}
	for _, size := range []int{0, 64, 65472, 65536} {
		r := restoreOf(size, size, false)
		for _, chunk := range chunks {
			switch {
			case len(chunk) == 0 || len(chunk) > chunkSize:
				if got := wantChunk(t, r, chunk, impl.ErrRange); got != r {
					t.Error("not the restore as it was", shownRestore(got))
				}
			case size == impl.MaxText:
				if got := wantChunk(t, r, chunk, impl.ErrFull); got != r {
					t.Error("not the restore as it was", shownRestore(got))
				}
			default:
				wantChunk(t, r, chunk, impl.OK)
			}
		}
		for _, chunk := range long {
			if got := wantChunk(t, r, chunk, impl.ErrLong); got != (impl.Restore{}) {
				t.Error("a code, and more than that", shownRestore(got))
			}
		}
	}
}

func TestPieceByPieceUntilItIsFull(t *testing.T) {
	bytes := blobOf(impl.MaxText, 9)
	pieces := wantChunks(t, []byte(bytes), impl.OK)
	r := restored(t, pieces)
	if r != (impl.Restore{Size: impl.MaxText, Bytes: bytes}) {
		t.Error("what is full is", shownRestore(r))
	}
	wantChunk(t, r, "x", impl.ErrFull)
	wantChunk(t, r, pieces[0], impl.ErrFull)
	wantEnd(t, r, impl.ErrForm)
	if r = restored(t, append(pieces[:1023:1023], "x")); !r.Done || r.Size != 65473 {
		t.Error("what is Done is", shownRestore(r))
	}
	wantChunk(t, r, "x", impl.ErrClosed)
}

func TestEndsOfRestores(t *testing.T) {
	dump, code := dumpByWords(backedTables(), backedData())
	if code != impl.OK {
		t.Fatal("no dump")
	}
	seal := string(sealOf(dump))
	list, data := wantEnd(t, whole(seal), impl.OK)
	if !sameTables(list, backedTables()) || !sameData(data, backedData()) {
		t.Error(list, shownData(data))
	}
	wantEnd(t, impl.Restore{}, impl.ErrForm)
	wantEnd(t, impl.Restore{Done: true}, impl.ErrForm)
	wantEnd(t, whole(string(sealOf([]byte{0}))), impl.OK) // no tables
	wantEnd(t, whole(string(sealOf(nil))), impl.ErrForm)
	for _, bytes := range []string{"x", "BK", seal[:len(seal)-1], seal[1:], seal + "\x00", "KB" + seal[2:], string(dump), strings.Repeat("\x00", 64), blobOf(impl.MaxText, 1)} {
		wantEnd(t, whole(bytes), impl.ErrForm)
	}
	turned := []byte(seal)
	turned[9] ^= 1
	wantEnd(t, whole(string(turned)), impl.ErrSum)
	wantEnd(t, whole(string(rawSeal("BK", 3, "\x00\x00\x00", 5))), impl.ErrSum) // no dump either
	for _, within := range []string{"hi", "\x00\x00", "\x01", string(dump) + "\x00", string(dump[:len(dump)-1]), seal, blobOf(mostSealed, 1)} {
		wantEnd(t, whole(string(sealOf([]byte(within)))), impl.ErrForm)
	}
	for _, r := range []impl.Restore{{Size: 1}, {Size: -1, Done: true}, {Bytes: seal, Done: true}, {Size: len(seal) + 1, Bytes: seal, Done: true}, {Size: least, Bytes: seal, Done: true}, {Size: greatest, Bytes: seal}, {Size: len(seal), Bytes: seal}, restoreOf(65600, 65600, false), restoreOf(65600, 65600, true)} {
		wantEnd(t, r, impl.ErrBad)
	}
}

// A seal of a multiple of ChunkSize leaves a restore that is not Done, but whole.
func TestEndsOfRestoresThatAreNotDone(t *testing.T) {
	seen := 0
	for size := 150; size < 900; size++ {
		list, data := wideDataOr(t, size)
		if list == nil {
			continue
		}
		dump, _ := dumpByWords(list, data)
		r := restored(t, wantChunks(t, sealOf(dump), impl.OK))
		wantEnd(t, r, impl.OK)
		if r.Size%chunkSize != 0 {
			if !r.Done {
				t.Error("not Done:", shownRestore(r))
			}
			continue
		}
		seen++
		if r.Done {
			t.Error("Done:", shownRestore(r))
		}
		wantEnd(t, impl.Restore{Size: r.Size, Bytes: r.Bytes, Done: true}, impl.OK)
		wantEnd(t, impl.Restore{Size: r.Size - chunkSize, Bytes: r.Bytes[:r.Size-chunkSize]}, impl.ErrForm)
		wantEnd(t, wantChunk(t, r, "x", impl.OK), impl.ErrForm)
		wantEnd(t, wantChunk(t, r, blobOf(64, 1), impl.OK), impl.ErrForm)
	}
	if seen < 8 {
		t.Error("few that are not Done", seen)
	}
}

// wideDataOr is wideData, without tables if there is no dump of so few bytes.
func wideDataOr(t *testing.T, size int) ([]impl.Table, []impl.Data) {
	t.Helper()
	if bare := len(rawDump(1, partOf(textByWords(wideTable())))); size != bare && size < bare+1+9+7*2 {
		return nil, nil
	}
	return wideData(t, size)
}

func TestPiecesInAnotherOrder(t *testing.T) {
	dump, _ := dumpByWords(backedTables(), backedData())
	pieces := wantChunks(t, sealOf(dump), impl.OK)
	for i := 0; i+2 < len(pieces); i++ {
		other := slices.Clone(pieces)
		other[i], other[i+1] = other[i+1], other[i]
		bytes := strings.Join(other, "")
		_, _, by := endByWords(whole(bytes))
		if by == impl.OK {
			t.Error("pieces in another order are a backup")
		}
		wantEnd(t, restored(t, other), by)
		wantEnd(t, restored(t, slices.Delete(slices.Clone(pieces), i, i+1)), impl.ErrForm)
		wantEnd(t, restored(t, slices.Insert(slices.Clone(pieces), i, pieces[i])), impl.ErrForm)
	}
}
