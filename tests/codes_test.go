package tests

import (
	"math"
	"strings"
	"testing"

	"loop.example/g00208/impl"
)

func TestNames(t *testing.T) {
	right := []string{"a", "z", "A", "Z", "_", "a1", "_9", "select", "Case_2", strings.Repeat("n", 40), "_" + strings.Repeat("0", 39)}
	wrong := []string{"", "0", "9a", "a b", " a", "a ", "a-b", "a.b", "\xc3\xa4", "a\xc3", "a\x00", "\x00", "a\n", "a'", strings.Repeat("n", 41), strings.Repeat("n", impl.MaxText), strings.Repeat("n", impl.MaxText+1)}
	for _, s := range right {
		if !impl.NameOK(s) {
			t.Errorf("%q is a name", s)
		}
	}
	for _, s := range wrong {
		if impl.NameOK(s) {
			t.Errorf("%.60q is no name", s)
		}
	}
}

func TestNamesByEachByte(t *testing.T) {
	const first = "abcdefghijklmnopqrstuvwxyzABCDEFGHIJKLMNOPQRSTUVWXYZ_"
	for c := range 256 {
		s := string([]byte{byte(c)})
		if impl.NameOK(s) != strings.Contains(first, s) {
			t.Errorf("NameOK of byte %d", c)
		}
		if impl.NameOK("a"+s) != strings.Contains(first+"0123456789", s) {
			t.Errorf("NameOK of a letter and byte %d", c)
		}
	}
}

func TestCodes(t *testing.T) {
	words := strings.Fields("ok bad long form range none many full sum twice type name count zero null conflict closed fuel guard syntax")
	constants := []int{
		impl.OK, impl.ErrBad, impl.ErrLong, impl.ErrForm, impl.ErrRange, impl.ErrNone, impl.ErrMany, impl.ErrFull, impl.ErrSum, impl.ErrTwice,
		impl.ErrType, impl.ErrName, impl.ErrCount, impl.ErrZero, impl.ErrNull, impl.ErrConflict, impl.ErrClosed, impl.ErrFuel, impl.ErrGuard, impl.ErrSyntax,
	}
	for i, word := range words {
		if constants[i] != i || impl.CodeWord(i) != word || impl.CodeOf(word) != i {
			t.Errorf("code %d: constant %d, word %q, code of %q %d", i, constants[i], impl.CodeWord(i), word, impl.CodeOf(word))
		}
	}
	for _, n := range []int{-1, len(words), 255, 256, math.MinInt, math.MaxInt} {
		if s := impl.CodeWord(n); s != "" {
			t.Errorf("CodeWord(%d) is %q", n, s)
		}
	}
	for _, s := range []string{"", "OK", "Bad", "ok ", " ok", "o", "okk", "0", "\x00", strings.Repeat("ok", impl.MaxText)} {
		if n := impl.CodeOf(s); n != -1 {
			t.Errorf("CodeOf(%.60q) is %d", s, n)
		}
	}
}

func TestConstants(t *testing.T) {
	if impl.MaxText != 65536 || impl.MaxList != 4096 || impl.MaxName != 40 {
		t.Error("bounds of texts, lists, names")
	}
	if impl.MaxCell != 60 || impl.MaxCells != 8 {
		t.Error("bounds of values and rows")
	}
	if impl.VaNull != 0 || impl.VaBool != 1 || impl.VaInt != 2 || impl.VaText != 3 || impl.VaBytes != 4 {
		t.Error("kinds")
	}
}
