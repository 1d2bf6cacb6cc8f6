package tests

import (
	"math"
	"slices"
	"strings"
	"testing"

	"loop.example/g00208/impl"
)

func flag(n int) impl.Value    { return impl.Value{Kind: impl.VaBool, N: n} }
func num(n int) impl.Value     { return impl.Value{Kind: impl.VaInt, N: n} }
func text(t string) impl.Value { return impl.Value{Kind: impl.VaText, T: t} }
func raw(t string) impl.Value  { return impl.Value{Kind: impl.VaBytes, T: t} }

// row makes a list that has its own memory, with room behind its end.
func row(values ...impl.Value) []impl.Value {
	return append(make([]impl.Value, 0, len(values)+2), values...)
}

func code(t *testing.T, what string, got, want int) {
	t.Helper()
	if got != want {
		t.Errorf("%.200s: code %d %q, want %d %q", what, got, impl.CodeWord(got), want, impl.CodeWord(want))
	}
}

// risingTexts stand in the order that the document asks for.
func risingTexts() []string {
	return []string{
		"", "\x00", "\x00\x00", "\x00\x01", "\x00\xff", "\x00\xff\x00", "\x01", "\x01\x00", "A", "a", "a\x00", "a\x00\x00",
		"a\x00\x01", "a\x00\x01b", "a\x00b", "a\x00\xff", "a\x01", "aa", "b", "\xfe", "\xff", "\xff\x00", "\xff\x01",
		"\xff\xff", strings.Repeat("\xff", impl.MaxCell),
	}
}

// risingValues are right ones, in their order, none twice.
func risingValues() []impl.Value {
	list := []impl.Value{{}, flag(0), flag(1)}
	for _, n := range []int{
		math.MinInt, math.MinInt + 1, -1 << 32, -65536, -257, -256, -255, -2, -1,
		0, 1, 2, 127, 128, 255, 256, 65535, 65536, 1 << 32, math.MaxInt - 1, math.MaxInt,
	} {
		list = append(list, num(n))
	}
	for _, t := range risingTexts() {
		list = append(list, text(t))
	}
	for _, t := range risingTexts() {
		list = append(list, raw(t))
	}
	return list
}

// wrongValues are not right, each for a reason of its own.
func wrongValues() []impl.Value {
	long := strings.Repeat("a", impl.MaxCell+1)
	return []impl.Value{
		{Kind: -1}, {Kind: 5}, {Kind: math.MinInt}, {Kind: math.MaxInt}, {Kind: 256}, {Kind: 258},
		{N: 1}, {N: -1}, {T: "a"}, {T: "\x00"},
		flag(2), flag(-1), flag(256), flag(math.MinInt), {Kind: impl.VaBool, N: 1, T: "a"},
		{Kind: impl.VaInt, N: 1, T: "1"}, {Kind: impl.VaInt, T: "\x00"},
		{Kind: impl.VaText, N: 1, T: "a"}, {Kind: impl.VaText, N: math.MinInt}, text(long),
		{Kind: impl.VaBytes, N: 1, T: "a"}, {Kind: impl.VaBytes, N: -1}, raw(long),
		text(strings.Repeat("a", impl.MaxText+1)),
	}
}

// dice is the same run of numbers each time.
type dice struct{ state uint64 }

func (d *dice) below(n int) int {
	d.state = d.state*6364136223846793005 + 1442695040888963407
	return int(d.state>>33) % n
}

// mixedRows are rows of rising values, many of them with a beginning in common.
func mixedRows(count int) [][]impl.Value {
	values := risingValues()
	d := &dice{state: 7}
	rows := [][]impl.Value{nil}
	for len(rows) < count {
		from := rows[d.below(len(rows))]
		r := slices.Clone(from[:d.below(len(from)+1)])
		for len(r) < impl.MaxCells && d.below(3) > 0 {
			r = append(r, values[d.below(len(values))])
		}
		rows = append(rows, r)
	}
	return rows
}

// eachText calls do with all texts of these bytes up to a length.
func eachText(alphabet string, longest int, do func(string)) {
	do("")
	level := []string{""}
	for range longest {
		var next []string
		for _, t := range level {
			for i := range len(alphabet) {
				next = append(next, t+alphabet[i:i+1])
				do(next[len(next)-1])
			}
		}
		level = next
	}
}
