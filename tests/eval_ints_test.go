package tests

import (
	"fmt"
	"testing"

	"loop.example/g00208/impl"
)

// wantInts holds sums, products, quotients and what is left of two ints, and what signs make of them, against numbers of any size.
func wantInts(t *testing.T, a, b int) {
	t.Helper()
	for sign, work := range map[string]func(a, b int) (int, int){"+": impl.AddInts, "*": impl.MulInts} {
		n, got := work(a, b)
		want, wanted := reckonedByWords(sign, a, b)
		if n != want || got != wanted {
			t.Errorf("%d %s %d: %d %s, want %d %s", a, sign, b, n, impl.CodeWord(got), want, impl.CodeWord(wanted))
		}
	}
	q, r, got := impl.DivInts(a, b)
	quotient, wanted := reckonedByWords("/", a, b)
	rest, _ := reckonedByWords("%", a, b)
	if q != quotient || r != rest || got != wanted {
		t.Errorf("DivInts %d %d: %d %d %s, want %d %d %s", a, b, q, r, impl.CodeWord(got), quotient, rest, impl.CodeWord(wanted))
	}
	for _, sign := range []string{"+", "-", "*", "/", "%"} {
		want, wanted := signByWords("binary", sign, num(a), num(b))
		wantBinary(t, num(a), sign, num(b), want, wanted)
	}
}

func TestSumsAndProducts(t *testing.T) {
	for _, c := range []struct {
		a, b, sum, sumCode, product, productCode int
	}{
		{0, 0, 0, 0, 0, 0}, {2, 3, 5, 0, 6, 0}, {2, -3, -1, 0, -6, 0}, {-2, 3, 1, 0, -6, 0}, {-2, -3, -5, 0, 6, 0}, {1, greatest - 1, greatest, 0, greatest - 1, 0}, {-1, least + 1, least, 0, greatest, 0},
		{greatest, 0, greatest, 0, 0, 0}, {least, 0, least, 0, 0, 0}, {greatest, 1, 0, impl.ErrRange, greatest, 0}, {least, 1, least + 1, 0, least, 0}, {greatest, -1, greatest - 1, 0, -greatest, 0}, {least, -1, 0, impl.ErrRange, 0, impl.ErrRange},
		{greatest, least, -1, 0, 0, impl.ErrRange}, {greatest, greatest, 0, impl.ErrRange, 0, impl.ErrRange}, {least, least, 0, impl.ErrRange, 0, impl.ErrRange}, {greatest, 2, 0, impl.ErrRange, 0, impl.ErrRange}, {least, 2, least + 2, 0, 0, impl.ErrRange}, {1 << 62, 1 << 62, 0, impl.ErrRange, 0, impl.ErrRange}, {-1 << 62, -1 << 62, least, 0, 0, impl.ErrRange},
		{1 << 62, 2, 1<<62 + 2, 0, 0, impl.ErrRange}, {1 << 62, -2, 1<<62 - 2, 0, least, 0}, {-1 << 62, 2, -1<<62 + 2, 0, least, 0}, {-1 << 62, -2, -1<<62 - 2, 0, 0, impl.ErrRange}, {1 << 32, 1 << 31, 3 << 31, 0, 0, impl.ErrRange}, {1 << 32, -1 << 31, 1 << 31, 0, least, 0}, {1 << 32, 1 << 32, 1 << 33, 0, 0, impl.ErrRange},
		{3037000499, 3037000499, 6074000998, 0, 9223372030926249001, 0}, {3037000500, 3037000500, 6074001000, 0, 0, impl.ErrRange}, {-3037000500, 3037000500, 0, 0, 0, impl.ErrRange},
	} {
		for _, flip := range []bool{false, true} {
			a, b := c.a, c.b
			if flip {
				a, b = b, a
			}
			sum, got := impl.AddInts(a, b)
			product, got2 := impl.MulInts(a, b)
			if sum != c.sum || got != c.sumCode || product != c.product || got2 != c.productCode {
				t.Error(a, b, "have", sum, got, product, got2, "want", c)
			}
		}
	}
}

func TestQuotients(t *testing.T) {
	for _, c := range [][5]int{
		{7, 2, 3, 1, 0}, {-7, 2, -3, -1, 0}, {7, -2, -3, 1, 0}, {-7, -2, 3, -1, 0}, {6, 3, 2, 0, 0}, {-6, 3, -2, 0, 0}, {2, 3, 0, 2, 0}, {-2, 3, 0, -2, 0}, {2, -3, 0, 2, 0}, {0, 5, 0, 0, 0}, {0, -1, 0, 0, 0},
		{0, 0, 0, 0, impl.ErrZero}, {1, 0, 0, 0, impl.ErrZero}, {-1, 0, 0, 0, impl.ErrZero}, {greatest, 0, 0, 0, impl.ErrZero}, {least, 0, 0, 0, impl.ErrZero},
		{least, -1, 0, 0, impl.ErrRange}, {least, 1, least, 0, 0}, {least + 1, -1, greatest, 0, 0}, {greatest, -1, -greatest, 0, 0}, {greatest, 1, greatest, 0, 0}, {least, -2, 1 << 62, 0, 0}, {least, 2, -1 << 62, 0, 0},
		{least, least, 1, 0, 0}, {least, greatest, -1, -1, 0}, {greatest, least, 0, greatest, 0}, {greatest, greatest, 1, 0, 0}, {-1, least, 0, -1, 0}, {1, least, 0, 1, 0}, {least, 10, -922337203685477580, -8, 0}, {greatest, -10, -922337203685477580, 7, 0},
	} {
		q, r, got := impl.DivInts(c[0], c[1])
		if q != c[2] || r != c[3] || got != c[4] {
			t.Error("DivInts", c, q, r, got)
		}
	}
}

func TestIntsAtTheirEnds(t *testing.T) {
	list := wholeNumbers()
	for _, a := range list {
		for _, b := range list {
			wantInts(t, a, b)
		}
		want, wanted := signByWords("unary", "-", num(a))
		wantUnary(t, "-", num(a), want, wanted)
	}
}

// Of each number the last one is looked for with which a sum, a difference and a product are in range, and the first one with which they are not.
func TestIntsAtTheBoundary(t *testing.T) {
	d := &dice{state: 131}
	for range 3000 {
		a := rolledInt(d)
		for _, end := range []int{least, greatest} {
			for off := -1; off <= 1; off++ {
				if b, code := reckonedByWords("-", end, a); code == impl.OK {
					wantInts(t, a, b+off)
				}
				if b, code := reckonedByWords("-", a, end); code == impl.OK {
					wantInts(t, a, b+off)
				}
				if b, code := reckonedByWords("/", end, a); code == impl.OK {
					wantInts(t, a, b+off)
					wantInts(t, b+off, a)
				}
			}
		}
	}
}

func TestRolledInts(t *testing.T) {
	d := &dice{state: 132}
	count := map[string]int{}
	for range 20000 {
		a, b := rolledInt(d), rolledInt(d)
		wantInts(t, a, b)
		for _, sign := range []string{"+", "-", "*", "/", "%"} {
			_, code := reckonedByWords(sign, a, b)
			count[fmt.Sprint(sign, impl.CodeWord(code))]++
		}
	}
	for _, what := range []string{"+ok", "+range", "-ok", "-range", "*ok", "*range", "/ok", "/zero", "%ok", "%zero"} {
		if count[what] < 100 {
			t.Error("few of", what, count)
		}
	}
}

// What is divided is the quotient times the divisor and what is left, which has the sign of what is divided.
func TestQuotientsComeBack(t *testing.T) {
	d := &dice{state: 133}
	for range 20000 {
		a, b := rolledInt(d), rolledInt(d)
		q, r, code := impl.DivInts(a, b)
		if code != impl.OK {
			continue
		}
		product, code := impl.MulInts(q, b)
		sum, code2 := impl.AddInts(product, r)
		if code+code2 != impl.OK || sum != a || r != 0 && (r < 0) != (a < 0) || max(r, -r) >= max(b, -b) && b != least {
			t.Fatal("DivInts", a, b, q, r, product, sum, code, code2)
		}
	}
}
