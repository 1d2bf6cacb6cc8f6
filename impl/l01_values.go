package impl

import (
	"cmp"
	"slices"
	"strconv"
	"strings"
)

const (
	MaxCell  = 60
	MaxCells = 8

	VaNull  = 0
	VaBool  = 1
	VaInt   = 2
	VaText  = 3
	VaBytes = 4
)

// keyEscape stands behind a 0 that is of the text, keyEnd behind the 0 that ends it:
// the end is the lesser one, so that a text comes ahead of those that it begins.
const (
	keyEnd    = 1
	keyEscape = 255
)

// signBit is turned in an int's bytes, so that those below 0 come ahead of the others.
const signBit = 1 << 63

const hexDigits = "0123456789abcdef"

type Value struct {
	Kind, N int
	T       string
}

// cell is a right value: each kind is a type that holds just what the kind may hold.
type cell interface{ kind() byte }

type (
	nullCell  struct{}
	boolCell  bool
	intCell   int
	textCell  string
	bytesCell string
)

func (nullCell) kind() byte  { return VaNull }
func (boolCell) kind() byte  { return VaBool }
func (intCell) kind() byte   { return VaInt }
func (textCell) kind() byte  { return VaText }
func (bytesCell) kind() byte { return VaBytes }

func ValueOK(v Value) bool { return cellOf(v) != nil }

func CompareValues(a, b Value) (int, int) {
	if !ValueOK(a) || !ValueOK(b) {
		return 0, ErrBad
	}
	return valueOrder(a, b), OK
}

func CompareRows(a, b []Value) (int, int) {
	if len(a) > MaxList || len(b) > MaxList {
		return 0, ErrLong
	}
	if !rowOK(a) || !rowOK(b) {
		return 0, ErrBad
	}
	return slices.CompareFunc(a, b, valueOrder), OK
}

func KeyBytes(row []Value) ([]byte, int) {
	cells, code := rowCells(row)
	if code != OK {
		return nil, code
	}
	var b strings.Builder
	for _, c := range cells {
		writeCell(&b, c, writeKeyText)
	}
	return []byte(b.String()), OK
}

func ReadKey(b []byte) ([]Value, int) {
	if len(b) > MaxText {
		return nil, ErrLong
	}
	var row []Value
	for len(b) > 0 {
		v, size := readCell(b, readKeyText)
		if size == 0 || len(row) == MaxCells {
			return nil, ErrForm
		}
		row = append(row, v)
		b = b[size:]
	}
	return row, OK
}

func RowBytes(row []Value) ([]byte, int) {
	cells, code := rowCells(row)
	if code != OK {
		return nil, code
	}
	var b strings.Builder
	b.WriteByte(byte(len(cells)))
	for _, c := range cells {
		writeCell(&b, c, writeRowText)
	}
	return []byte(b.String()), OK
}

func ReadRow(b []byte) ([]Value, int) {
	if len(b) > MaxText {
		return nil, ErrLong
	}
	row, size := readRow(b)
	if size == 0 || size != len(b) {
		return nil, ErrForm
	}
	return row, OK
}

func ValueText(v Value) (string, int) {
	c := cellOf(v)
	if c == nil {
		return "", ErrBad
	}
	return literalOf(c), OK
}

func ReadValue(t string) (Value, int) {
	if len(t) > MaxText {
		return Value{}, ErrLong
	}
	v, ok := readLiteral(t)
	if !ok || !ValueOK(v) {
		return Value{}, ErrForm
	}
	return v, OK
}

func RowText(row []Value) (string, int) {
	cells, code := rowCells(row)
	if code != OK {
		return "", code
	}
	var b strings.Builder
	writeList(&b, cells, literalOf)
	return b.String(), OK
}

// cellOf is nil of a value that is not right.
func cellOf(v Value) cell {
	switch {
	case v == (Value{}):
		return nullCell{}
	case v.Kind == VaBool && (v.N == 0 || v.N == 1) && v.T == "":
		return boolCell(v.N == 1)
	case v.Kind == VaInt && v.T == "":
		return intCell(v.N)
	case v.Kind == VaText && v.N == 0 && len(v.T) <= MaxCell:
		return textCell(v.T)
	case v.Kind == VaBytes && v.N == 0 && len(v.T) <= MaxCell:
		return bytesCell(v.T)
	}
	return nil
}

// rowCells has ErrLong of a list beyond all lists, ErrBad of any other that is no right row.
func rowCells(row []Value) ([]cell, int) {
	if len(row) > MaxList {
		return nil, ErrLong
	}
	if len(row) > MaxCells {
		return nil, ErrBad
	}
	var cells []cell
	for _, v := range row {
		c := cellOf(v)
		if c == nil {
			return nil, ErrBad
		}
		cells = append(cells, c)
	}
	return cells, OK
}

func rowOK(row []Value) bool {
	_, code := rowCells(row)
	return code == OK
}

func valueOrder(a, b Value) int {
	return cmp.Or(cmp.Compare(a.Kind, b.Kind), cmp.Compare(a.N, b.N), cmp.Compare(a.T, b.T))
}

// writeCell writes what key bytes and row bytes have alike; they differ in texts alone.
func writeCell(b *strings.Builder, c cell, writeText func(*strings.Builder, string)) {
	b.WriteByte(c.kind())
	switch x := c.(type) {
	case boolCell:
		b.WriteByte(boolByte(bool(x)))
	case intCell:
		writeInt(b, int(x))
	case textCell:
		writeText(b, string(x))
	case bytesCell:
		writeText(b, string(x))
	}
}

func boolByte(x bool) byte {
	if x {
		return 1
	}
	return 0
}

func writeInt(b *strings.Builder, n int) {
	u := uint64(n) ^ signBit
	for shift := 56; shift >= 0; shift -= 8 {
		b.WriteByte(byte(u >> shift))
	}
}

func writeKeyText(b *strings.Builder, t string) {
	for i := range len(t) {
		b.WriteByte(t[i])
		if t[i] == 0 {
			b.WriteByte(keyEscape)
		}
	}
	b.WriteByte(0)
	b.WriteByte(keyEnd)
}

// writeRowText can tell the length in one byte, as a right text has at most MaxCell bytes.
func writeRowText(b *strings.Builder, t string) {
	b.WriteByte(byte(len(t)))
	b.WriteString(t)
}

// readRow answers the row whose row bytes b begins with, and how many these are: 0 if that is no right one.
func readRow(b []byte) ([]Value, int) {
	if len(b) == 0 || b[0] > MaxCells {
		return nil, 0
	}
	var row []Value
	all := 1
	for range b[0] {
		v, size := readCell(b[all:], readRowText)
		if size == 0 {
			return nil, 0
		}
		row = append(row, v)
		all += size
	}
	return row, all
}

// readCell answers the value that b begins with, and how many bytes tell it: 0 if that is no right one.
func readCell(b []byte, readText func([]byte) (string, int)) (Value, int) {
	if len(b) == 0 {
		return Value{}, 0
	}
	kind := int(b[0])
	switch kind {
	case VaNull:
		return Value{}, 1
	case VaBool:
		if len(b) > 1 && b[1] <= 1 {
			return Value{Kind: VaBool, N: int(b[1])}, 2
		}
	case VaInt:
		if len(b) > 8 {
			return Value{Kind: VaInt, N: readInt(b[1:9])}, 9
		}
	case VaText, VaBytes:
		t, size := readText(b[1:])
		if size > 0 && len(t) <= MaxCell {
			return Value{Kind: kind, T: t}, 1 + size
		}
	}
	return Value{}, 0
}

func readInt(b []byte) int {
	u := uint64(0)
	for _, c := range b {
		u = u<<8 | uint64(c)
	}
	return int(u ^ signBit)
}

// readKeyText answers the text up to its end and how many bytes tell it: 0 if it has no end.
func readKeyText(b []byte) (string, int) {
	var t strings.Builder
	for i := 0; i < len(b); i++ {
		if b[i] != 0 {
			t.WriteByte(b[i])
			continue
		}
		i++
		switch {
		case i < len(b) && b[i] == keyEnd:
			return t.String(), i + 1
		case i < len(b) && b[i] == keyEscape:
			t.WriteByte(0)
		default:
			return "", 0
		}
	}
	return "", 0
}

func readRowText(b []byte) (string, int) {
	if len(b) == 0 || len(b) <= int(b[0]) {
		return "", 0
	}
	size := 1 + int(b[0])
	return string(b[1:size]), size
}

func literalOf(c cell) string {
	switch x := c.(type) {
	case boolCell:
		return strconv.FormatBool(bool(x))
	case intCell:
		return strconv.Itoa(int(x))
	case textCell:
		return "'" + strings.ReplaceAll(string(x), "'", "''") + "'"
	case bytesCell:
		return "x'" + hexOf(string(x)) + "'"
	}
	return "null"
}

func writeList[T any](b *strings.Builder, list []T, textOf func(T) string) {
	b.WriteByte('(')
	writeJoined(b, list, textOf)
	b.WriteByte(')')
}

func writeJoined[T any](b *strings.Builder, list []T, textOf func(T) string) {
	for i, x := range list {
		if i > 0 {
			b.WriteString(", ")
		}
		b.WriteString(textOf(x))
	}
}

func hexOf(t string) string {
	var b strings.Builder
	for i := range len(t) {
		b.WriteByte(hexDigits[t[i]>>4])
		b.WriteByte(hexDigits[t[i]&15])
	}
	return b.String()
}

// readLiteral leaves it to the caller to ask whether a text's length is right.
func readLiteral(t string) (Value, bool) {
	switch {
	case t == "null":
		return Value{}, true
	case t == "true":
		return Value{Kind: VaBool, N: 1}, true
	case t == "false":
		return Value{Kind: VaBool}, true
	case strings.HasPrefix(t, "'"):
		s, ok := unquote(t)
		return Value{Kind: VaText, T: s}, ok
	case strings.HasPrefix(t, "x"):
		s, ok := unhex(t[1:])
		return Value{Kind: VaBytes, T: s}, ok
	}
	n, ok := readNumber(t)
	return Value{Kind: VaInt, N: n}, ok
}

// between cuts the quotes off.
func between(t string) (string, bool) {
	if len(t) < 2 || t[0] != '\'' || t[len(t)-1] != '\'' {
		return "", false
	}
	return t[1 : len(t)-1], true
}

func unquote(t string) (string, bool) {
	inner, ok := between(t)
	if !ok {
		return "", false
	}
	var b strings.Builder
	for i := 0; i < len(inner); i++ {
		if inner[i] == '\'' {
			i++ // the first of two says only that the second one is of the text
			if i == len(inner) || inner[i] != '\'' {
				return "", false
			}
		}
		b.WriteByte(inner[i])
	}
	return b.String(), true
}

func unhex(t string) (string, bool) {
	inner, ok := between(t)
	if !ok || len(inner)%2 != 0 {
		return "", false
	}
	var b strings.Builder
	for i := 0; i < len(inner); i += 2 {
		high := strings.IndexByte(hexDigits, inner[i])
		low := strings.IndexByte(hexDigits, inner[i+1])
		if high < 0 || low < 0 {
			return "", false
		}
		b.WriteByte(byte(high<<4 | low))
	}
	return b.String(), true
}
