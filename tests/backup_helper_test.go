package tests

import (
	"encoding/binary"
	"fmt"
	"hash/crc32"
	"slices"
	"strings"
	"testing"

	"loop.example/g00208/impl"
)

const (
	chunkSize = 64
	// a dump that is sealed has at most so many bytes
	mostSealed = 65526
)

// backedTables have columns of all types, null where they may be, and indexes.
func backedTables() []impl.Table {
	return roomyTables([]impl.Table{
		table("all", "id int, yes bool null, n int null, t text null, b bytes null", 1, index("byn", 2), index("bymore", 4, 3)),
		table("flags", "yes bool", 1),
		table("one", "x int", 1),
		table("texts", "t text, b bytes", 2),
	})
}

func backedData() []impl.Data {
	data := dataOf(
		"all: -2, null, null, null, null; -1, true, -1, '', x''; 0, false, 0, 'a', x'00'; 1, null, 999999999999999999, 'it''s', x'ff00ff'",
		"flags: false; true",
		"one:",
		"texts: '', x''; '', x'00'; 'a', x''; '"+strings.Repeat("b", impl.MaxCell)+"', x'"+strings.Repeat("c0", impl.MaxCell)+"'")
	data[0].Rows[0][0].N = least
	data[0].Rows[3][0].N = greatest
	return data
}

// rowInDump is a right row's bytes.
func rowInDump(r []impl.Value) []byte {
	b := []byte{byte(len(r))}
	for _, v := range r {
		b = append(b, byte(v.Kind))
		switch v.Kind {
		case impl.VaBool:
			b = append(b, byte(v.N))
		case impl.VaInt:
			b = binary.BigEndian.AppendUint64(b, uint64(v.N)^1<<63)
		case impl.VaText, impl.VaBytes:
			b = append(append(b, byte(len(v.T))), v.T...)
		}
	}
	return b
}

// rawDump tells of each table a text and rows, whatever they are.
func rawDump(tables int, parts ...[]byte) []byte {
	return slices.Concat(append([][]byte{{byte(tables)}}, parts...)...)
}

func partOf(text string, rows ...[]byte) []byte { return partWith(len(text), text, len(rows), rows...) }

// partWith tells any lengths.
func partWith(length int, text string, count int, rows ...[]byte) []byte {
	b := binary.BigEndian.AppendUint16(nil, uint16(length))
	b = binary.BigEndian.AppendUint16(append(b, text...), uint16(count))
	return append(b, slices.Concat(rows...)...)
}

// dumpByWords is what DumpBytes is to answer.
func dumpByWords(list []impl.Table, data []impl.Data) ([]byte, int) {
	switch {
	case len(list) > 4096 || len(data) > 4096:
		return nil, impl.ErrLong
	case !dataByWords(list, data):
		return nil, impl.ErrBad
	}
	var parts [][]byte
	for i, x := range list {
		var rows [][]byte
		for _, r := range data[i].Rows {
			rows = append(rows, rowInDump(r))
		}
		parts = append(parts, partOf(textByWords(x), rows...))
	}
	return rawDump(len(list), parts...), impl.OK
}

// scanner takes bytes off; short says that there were too few once.
type scanner struct {
	rest  string
	short bool
}

func (s *scanner) take(count int) string {
	if count > len(s.rest) {
		s.rest, s.short = "", true
		return strings.Repeat("\x00", count)
	}
	taken := s.rest[:count]
	s.rest = s.rest[count:]
	return taken
}

func (s *scanner) number(count int) int {
	n := 0
	for _, c := range []byte(s.take(count)) {
		n = n*256 + int(c)
	}
	return n
}

// row takes what may be a row, whatever its values are.
func (s *scanner) row() []impl.Value {
	var r []impl.Value
	for range s.number(1) {
		v := impl.Value{Kind: s.number(1)}
		switch v.Kind {
		case impl.VaBool:
			v.N = s.number(1)
		case impl.VaInt:
			v.N = int(binary.BigEndian.Uint64([]byte(s.take(8))) ^ 1<<63)
		case impl.VaText, impl.VaBytes:
			v.T = s.take(s.number(1))
		}
		r = append(r, v)
	}
	return r
}

// loadByWords is what LoadBytes is to answer: of what may be read so the bytes must be those of right ones.
func loadByWords(b []byte) ([]impl.Table, []impl.Data, int) {
	if len(b) > 65536 {
		return nil, nil, impl.ErrLong
	}
	s := &scanner{rest: string(b)}
	var list []impl.Table
	var data []impl.Data
	for range s.number(1) {
		x, right := readByWords(s.take(s.number(2)))
		if !right || s.short {
			return nil, nil, impl.ErrForm
		}
		d := impl.Data{Name: x.Name}
		for range s.number(2) {
			if d.Rows = append(d.Rows, s.row()); s.short {
				return nil, nil, impl.ErrForm
			}
		}
		list, data = append(list, x), append(data, d)
	}
	again, code := dumpByWords(list, data)
	if code != impl.OK || string(again) != string(b) {
		return nil, nil, impl.ErrForm
	}
	return list, data, impl.OK
}

// rawSeal has any mark, length and sum.
func rawSeal(mark string, length int, bytes string, turned uint32) []byte {
	b := append(binary.BigEndian.AppendUint32([]byte(mark), uint32(length)), bytes...)
	return binary.LittleEndian.AppendUint32(b, crc32.ChecksumIEEE(b)^turned)
}

func sealOf(bytes []byte) []byte { return rawSeal("BK", len(bytes), string(bytes), 0) }

// sealByWords is what SealBytes is to answer.
func sealByWords(b []byte) ([]byte, int) {
	if len(b) > mostSealed {
		return nil, impl.ErrLong
	}
	return sealOf(b), impl.OK
}

// openByWords is what OpenSeal is to answer.
func openByWords(b []byte) ([]byte, int) {
	if len(b) > 65536 {
		return nil, impl.ErrLong
	}
	if len(b) < 10 || string(b[:2]) != "BK" || int(binary.BigEndian.Uint32(b[2:])) != len(b)-10 {
		return nil, impl.ErrForm
	}
	if within := b[6 : len(b)-4]; string(sealOf(within)) == string(b) {
		return within, impl.OK
	}
	return nil, impl.ErrSum
}

// chunksByWords is what BackupChunks is to answer.
func chunksByWords(b []byte) ([]string, int) {
	if len(b) > 65536 {
		return nil, impl.ErrLong
	}
	var list []string
	for len(b) > 64 {
		list = append(list, string(b[:64]))
		b = b[64:]
	}
	if len(b) > 0 {
		list = append(list, string(b))
	}
	return list, impl.OK
}

func restoreRight(r impl.Restore) bool {
	if r.Size != len(r.Bytes) || len(r.Bytes) > 65536 {
		return false
	}
	return r.Done || len(r.Bytes)&63 == 0
}

// chunkByWords is what RestoreChunk is to answer.
func chunkByWords(r impl.Restore, chunk string) (impl.Restore, int) {
	room := 65536 - len(r.Bytes)
	switch {
	case len(chunk) > 65536:
		return impl.Restore{}, impl.ErrLong
	case !restoreRight(r):
		return impl.Restore{}, impl.ErrBad
	case r.Done:
		return r, impl.ErrClosed
	case chunk == "" || len(chunk) > 64:
		return r, impl.ErrRange
	case len(chunk) > room:
		return r, impl.ErrFull
	}
	r.Bytes += chunk
	return impl.Restore{Size: len(r.Bytes), Bytes: r.Bytes, Done: len(chunk) != 64}, impl.OK
}

// endByWords is what RestoreEnd is to answer.
func endByWords(r impl.Restore) ([]impl.Table, []impl.Data, int) {
	if !restoreRight(r) {
		return nil, nil, impl.ErrBad
	}
	dump, code := openByWords([]byte(r.Bytes))
	if code != impl.OK {
		return nil, nil, code
	}
	return loadByWords(dump)
}

func wantBytes(t *testing.T, what string, got []byte, code int, want []byte, wanted int) {
	t.Helper()
	if code != wanted || string(got) != string(want) || code != impl.OK && got != nil {
		t.Errorf("%.200s: %d bytes %.200q %q, want %d bytes %.200q %q", what, len(got), got, impl.CodeWord(code), len(want), want, impl.CodeWord(wanted))
	}
}

// wantDump asks for a dump, which is to be the one by the words, too.
func wantDump(t *testing.T, list []impl.Table, data []impl.Data, wanted int) []byte {
	t.Helper()
	what := fmt.Sprintf("DumpBytes of %d tables %.100v, %d data %.200s", len(list), list, len(data), shownData(data[:min(9, len(data))]))
	words, by := dumpByWords(list, data)
	code(t, what+"by the words", by, wanted)
	got, c := impl.DumpBytes(list, data)
	wantBytes(t, what, got, c, words, wanted)
	return got
}

func wantBacked(t *testing.T, what string, list []impl.Table, data []impl.Data, got int, wantedList []impl.Table, wantedData []impl.Data, wanted int) {
	t.Helper()
	code(t, what, got, wanted)
	if !sameTables(list, wantedList) || !sameData(data, wantedData) || got != impl.OK && (list != nil || data != nil) {
		t.Errorf("%.200s: %.200v and %.200s, want %.200v and %.200s", what, list, shownData(data), wantedList, shownData(wantedData))
	}
}

func wantLoad(t *testing.T, b []byte, wanted int) ([]impl.Table, []impl.Data) {
	t.Helper()
	what := fmt.Sprintf("LoadBytes of %d bytes %.200q", len(b), b)
	wantedList, wantedData, by := loadByWords(b)
	code(t, what+" by the words", by, wanted)
	list, data, c := impl.LoadBytes(b)
	wantBacked(t, what, list, data, c, wantedList, wantedData, wanted)
	return list, data
}

func wantSeal(t *testing.T, b []byte, wanted int) []byte {
	t.Helper()
	what := fmt.Sprintf("SealBytes of %d bytes %.100q", len(b), b)
	words, by := sealByWords(b)
	code(t, what+" by the words", by, wanted)
	got, c := impl.SealBytes(b)
	wantBytes(t, what, got, c, words, wanted)
	return got
}

func wantOpen(t *testing.T, b []byte, wanted int) []byte {
	t.Helper()
	what := fmt.Sprintf("OpenSeal of %d bytes %.200q", len(b), b)
	words, by := openByWords(b)
	code(t, what+" by the words", by, wanted)
	got, c := impl.OpenSeal(b)
	wantBytes(t, what, got, c, words, wanted)
	return got
}

func wantChunks(t *testing.T, b []byte, wanted int) []string {
	t.Helper()
	what := fmt.Sprintf("BackupChunks of %d bytes", len(b))
	words, by := chunksByWords(b)
	code(t, what+" by the words", by, wanted)
	got, c := impl.BackupChunks(b)
	code(t, what, c, wanted)
	if !slices.Equal(got, words) || c != impl.OK && got != nil {
		t.Errorf("%s: %d pieces %.200q, want %d", what, len(got), got, len(words))
	}
	return got
}

func shownRestore(r impl.Restore) string {
	return fmt.Sprintf("a restore of %d, which are %d bytes %.60q, %v", r.Size, len(r.Bytes), r.Bytes, r.Done)
}

func wantRestore(t *testing.T, r impl.Restore, want bool) {
	t.Helper()
	if words := restoreRight(r); words != want {
		t.Errorf("RestoreOK by the words: %s: %v", shownRestore(r), words)
	}
	if got := impl.RestoreOK(r); got != want {
		t.Errorf("RestoreOK: %s: %v", shownRestore(r), got)
	}
}

func wantChunk(t *testing.T, r impl.Restore, chunk string, wanted int) impl.Restore {
	t.Helper()
	what := fmt.Sprintf("RestoreChunk of %s and %d bytes %.70q", shownRestore(r), len(chunk), chunk)
	words, by := chunkByWords(r, chunk)
	code(t, what+" by the words", by, wanted)
	got, c := impl.RestoreChunk(r, chunk)
	code(t, what, c, wanted)
	if got != words {
		t.Errorf("%.300s: %s, want %s", what, shownRestore(got), shownRestore(words))
	}
	return got
}

func wantEnd(t *testing.T, r impl.Restore, wanted int) ([]impl.Table, []impl.Data) {
	t.Helper()
	what := "RestoreEnd of " + shownRestore(r)
	wantedList, wantedData, by := endByWords(r)
	code(t, what+" by the words", by, wanted)
	list, data, c := impl.RestoreEnd(r)
	wantBacked(t, what, list, data, c, wantedList, wantedData, wanted)
	return list, data
}

// whole is a restore that has some bytes, as pieces make it.
func whole(bytes string) impl.Restore {
	return impl.Restore{Size: len(bytes), Bytes: bytes, Done: len(bytes)%chunkSize != 0}
}

// put together piece by piece.
func restored(t *testing.T, pieces []string) impl.Restore {
	t.Helper()
	var r impl.Restore
	for _, piece := range pieces {
		r = wantChunk(t, r, piece, impl.OK)
	}
	return r
}

// wideTable has rows of up to 444 bytes.
func wideTable() impl.Table {
	return table("wide", "id int, a text, b text, c text, d text, e text, f text, g text", 1)
}

// wideData are of wideTable, and their dump has just so many bytes: at least its text's and one row's of empty texts.
func wideData(t *testing.T, size int) ([]impl.Table, []impl.Data) {
	t.Helper()
	left := size - len(rawDump(1, partOf(textByWords(wideTable()))))
	const least, most = 1 + 9 + 7*2, 1 + 9 + 7*(2+impl.MaxCell)
	var rows [][]impl.Value
	for left > 0 {
		length := min(most, left)
		if rest := left - length; rest > 0 && rest < least {
			length -= least
		}
		r := row(num(len(rows)))
		fill := length - least
		for range 7 {
			size := min(fill, impl.MaxCell)
			r = append(r, text(blobOf(size, len(rows))))
			fill -= size
		}
		rows = append(rows, r)
		left -= length
	}
	list, data := roomyTables([]impl.Table{wideTable()}), []impl.Data{{Name: "wide", Rows: rows}}
	if dump, code := dumpByWords(list, data); code != impl.OK || len(dump) != size {
		t.Fatal("a dump of", size, "bytes has", len(dump), impl.CodeWord(code))
	}
	return list, data
}
