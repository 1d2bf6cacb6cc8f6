package tests

import (
	"reflect"
	"slices"
	"strings"
	"testing"

	"loop.example/g00208/impl"
)

// roomyBytes have memory of their own, with room behind their end.
func roomyBytes(b []byte) []byte { return roomy(slices.Clone(b), 77) }

func behindBytes(b []byte) string { return string(b[:cap(b)]) }

// someBackups are dumps, seals, and bytes that are none.
func someBackups() [][]byte {
	list := append(someBytes(), make([]byte, impl.MaxText), make([]byte, impl.MaxText+1), []byte("\x01\x00\x10one(x int) key 1\x00\x01"+intOne))
	d := &dice{state: 1730}
	for range 8 {
		dump, _ := dumpByWords(typedTables(), rolledData(d, typedTables(), 6))
		seal := sealOf(dump)
		list = append(list, dump, seal, dump[1:], seal[:len(seal)-1], append(dump, 0), bitsTurned(string(seal), 100, 5))
	}
	return list
}

func someRestores() []impl.Restore {
	list := []impl.Restore{{}, {Size: 1}, {Done: true}, {Size: -1}, {Size: least, Done: true}, {Size: greatest}, restoreOf(64, 64, false), restoreOf(65536, 65536, false), restoreOf(65600, 65600, false), restoreOf(65600, 65600, true)}
	for _, b := range someBackups() {
		list = append(list, whole(string(b)), impl.Restore{Size: len(b), Bytes: string(b), Done: true})
	}
	return list
}

// askedOfBackups are all calls of chapter 17 with some arguments.
func askedOfBackups() []func() []any {
	var calls []func() []any
	ask := func(f func() []any) { calls = append(calls, f) }
	d := &dice{state: 1731}
	for _, list := range append(rightCatalogs(), backedTables(), typedTables(), wrongCatalogs()[0], manyTables(impl.MaxList+1)) {
		for _, data := range [][]impl.Data{nil, emptyData(list), backedData(), rolledData(d, typedTables(), 9), make([]impl.Data, impl.MaxList+1)} {
			ask(func() []any { b, c := impl.DumpBytes(list, data); return []any{b, c} })
		}
	}
	for _, b := range someBackups() {
		ask(func() []any { list, data, c := impl.LoadBytes(b); return []any{list, data, c} })
		ask(func() []any { seal, c := impl.SealBytes(b); return []any{seal, c} })
		ask(func() []any { within, c := impl.OpenSeal(b); return []any{within, c} })
		ask(func() []any { pieces, c := impl.BackupChunks(b); return []any{pieces, c} })
	}
	for _, r := range someRestores() {
		ask(func() []any { return []any{impl.RestoreOK(r)} })
		ask(func() []any { list, data, c := impl.RestoreEnd(r); return []any{list, data, c} })
		for _, chunk := range []string{"", "x", blobOf(64, 1), blobOf(65, 1), blobOf(impl.MaxText+1, 1)} {
			ask(func() []any { next, c := impl.RestoreChunk(r, chunk); return []any{next, c} })
		}
	}
	return calls
}

func TestWhatIsDumpedStays(t *testing.T) {
	d := &dice{state: 1732}
	for range 50 {
		list := roomyTables(rolledIndexed(d, typedTables()))
		data := roomyData(rolledData(d, list, 9))
		tables, rows := cloneTables(behindTables(list)), behindData(data)
		dump, code := impl.DumpBytes(list, data)
		first := string(dump)
		if code != impl.OK || !sameTables(behindTables(list), tables) || !reflect.DeepEqual(behindData(data), rows) {
			t.Fatal("what is dumped was changed", impl.CodeWord(code))
		}
		scribbleList(dump[:cap(dump)], 88)
		if !sameTables(behindTables(list), tables) || !reflect.DeepEqual(behindData(data), rows) {
			t.Fatal("a dump shares memory with what it is of")
		}
		dump, _ = impl.DumpBytes(list, data)
		scribbleTables(list)
		scribbleData(data)
		if string(dump) != first {
			t.Fatal("a dump hangs on what became of the one ahead, or of its arguments")
		}
	}
}

func TestBytesOfBackupsStay(t *testing.T) {
	for _, given := range someBackups() {
		for name, ask := range map[string]func([]byte) []byte{
			"SealBytes": func(b []byte) []byte { seal, _ := impl.SealBytes(b); return seal },
			"OpenSeal":  func(b []byte) []byte { within, _ := impl.OpenSeal(b); return within },
			"LoadBytes": func(b []byte) []byte { impl.LoadBytes(b); return nil },
			"BackupChunks": func(b []byte) []byte {
				pieces, _ := impl.BackupChunks(b)
				return []byte(strings.Join(pieces, ""))
			},
		} {
			b := roomyBytes(given)
			before := behindBytes(b)
			got := ask(b)
			first := string(got)
			scribbleList(got[:cap(got)], 88)
			if behindBytes(b) != before {
				t.Fatalf("%s: %d bytes were changed, or share memory with the answer", name, len(b))
			}
			got = ask(b)
			scribbleList(b[:cap(b)], 99)
			if string(got) != first {
				t.Fatalf("%s: an answer of %d bytes hangs on what became of the one ahead, or of the bytes", name, len(b))
			}
		}
	}
}

func TestPiecesAreNewMemory(t *testing.T) {
	for _, given := range someBackups() {
		b := roomyBytes(given)
		pieces, code := impl.BackupChunks(b)
		want := slices.Clone(pieces)
		scribbleList(pieces[:cap(pieces)], "scribbled")
		again, _ := impl.BackupChunks(b)
		scribbleList(b[:cap(b)], 99)
		if !slices.Equal(again, want) || len(given) <= impl.MaxText && strings.Join(again, "") != string(given) {
			t.Fatal("pieces of", len(given), "bytes hang on others, or on the bytes", impl.CodeWord(code))
		}
	}
}

// wantNewMemory asks twice: each list of the answer is its own.
func wantNewMemory(t *testing.T, what string, ask func() ([]impl.Table, []impl.Data, int)) {
	t.Helper()
	list, data, code := ask()
	tables, rows := cloneTables(list), cloneData(data)
	eachList(list, cloneTables(list), func(place string, scribble, mend func()) {
		scribble()
		mend()
		if !sameTables(list, tables) || !sameData(data, rows) {
			t.Fatalf("%s: %s share memory with another list", what, place)
		}
	})
	shareNoRows(t, what, data, nil)
	if !sameTables(list, tables) {
		t.Fatal(what, ": its tables share memory with its rows")
	}
	scribbleTables(list)
	scribbleData(data)
	list, data, again := ask()
	if again != code || !sameTables(list, tables) || !sameData(data, rows) {
		t.Fatal(what, ": an answer hangs on what became of the one ahead", impl.CodeWord(again))
	}
}

func TestWhatIsLoadedIsNewMemory(t *testing.T) {
	loaded := 0
	for _, given := range someBackups() {
		if list, _, _ := impl.LoadBytes(given); len(list) > 1 {
			loaded++
		}
		b := roomyBytes(given)
		wantNewMemory(t, "LoadBytes", func() ([]impl.Table, []impl.Data, int) { return impl.LoadBytes(b) })
		list, data, _ := impl.LoadBytes(b)
		tables, rows := cloneTables(list), cloneData(data)
		scribbleList(b[:cap(b)], 99)
		if !sameTables(list, tables) || !sameData(data, rows) {
			t.Fatal("what is loaded changes with its bytes")
		}
	}
	for _, r := range someRestores() {
		wantNewMemory(t, "RestoreEnd", func() ([]impl.Table, []impl.Data, int) { return impl.RestoreEnd(r) })
	}
	if loaded < 8 {
		t.Error("few are loaded", loaded)
	}
}

func TestEmptyListsOfBackups(t *testing.T) {
	for _, list := range [][]impl.Table{nil, {}} {
		for _, data := range [][]impl.Data{nil, {}} {
			if b, code := impl.DumpBytes(list, data); string(b) != "\x00" || code != impl.OK {
				t.Error("DumpBytes of nothing", b, code)
			}
		}
	}
	for _, b := range [][]byte{nil, {}} {
		seal, code := impl.SealBytes(b)
		if string(seal) != string(sealOf(nil)) || code != impl.OK {
			t.Error("SealBytes of nothing", seal, code)
		}
		if list, data, code := impl.LoadBytes(b); list != nil || data != nil || code != impl.ErrForm {
			t.Error("LoadBytes of nothing", code)
		}
		if within, code := impl.OpenSeal(b); within != nil || code != impl.ErrForm {
			t.Error("OpenSeal of nothing", code)
		}
		if pieces, code := impl.BackupChunks(b); pieces != nil || code != impl.OK {
			t.Error("BackupChunks of nothing", code)
		}
		if within, code := impl.OpenSeal(seal); within != nil || code != impl.OK {
			t.Error("OpenSeal of nothing sealed", code)
		}
	}
	if list, data, code := impl.LoadBytes([]byte{0}); list != nil || data != nil || code != impl.OK {
		t.Error("LoadBytes of no tables", code)
	}
	one := []impl.Table{{Name: "one", Columns: []impl.Column{{Name: "x", Type: impl.VaInt}}, Key: 1, Indexes: []impl.Index{}}}
	b, code := impl.DumpBytes(one, []impl.Data{{Name: "one", Rows: [][]impl.Value{}}})
	if string(b) != "\x01\x00\x10one(x int) key 1\x00\x00" || code != impl.OK {
		t.Errorf("%q %d", b, code)
	}
	list, data, _ := impl.LoadBytes(b)
	if len(list) != 1 || list[0].Indexes != nil || data[0].Rows != nil {
		t.Error("a table without indexes and rows", list, data)
	}
}
