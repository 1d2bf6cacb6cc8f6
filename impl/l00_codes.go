package impl

const (
	MaxText = 65536
	MaxList = 4096
	MaxName = 40

	OK          = 0
	ErrBad      = 1
	ErrLong     = 2
	ErrForm     = 3
	ErrRange    = 4
	ErrNone     = 5
	ErrMany     = 6
	ErrFull     = 7
	ErrSum      = 8
	ErrTwice    = 9
	ErrType     = 10
	ErrName     = 11
	ErrCount    = 12
	ErrZero     = 13
	ErrNull     = 14
	ErrConflict = 15
	ErrClosed   = 16
	ErrFuel     = 17
	ErrGuard    = 18
	ErrSyntax   = 19
)

// maxDigits keeps a number's text within 64 bits, whatever its digits are.
const maxDigits = 18

// codeWords has each word at its code's place, so that the two ways cannot tell different things.
var codeWords = [20]string{
	"ok", "bad", "long", "form", "range", "none", "many", "full", "sum", "twice",
	"type", "name", "count", "zero", "null", "conflict", "closed", "fuel", "guard", "syntax",
}

func NameOK(t string) bool {
	if len(t) == 0 || len(t) > MaxName || isDigit(t[0]) {
		return false
	}
	for i := range len(t) {
		if !isLetter(t[i]) && !isDigit(t[i]) {
			return false
		}
	}
	return true
}

func CodeWord(code int) string {
	if code < 0 || code >= len(codeWords) {
		return ""
	}
	return codeWords[code]
}

func CodeOf(word string) int {
	for code := range len(codeWords) {
		if codeWords[code] == word {
			return code
		}
	}
	return -1
}

// isLetter counts `_` as one: a name may hold it wherever a letter may stand.
func isLetter(c byte) bool {
	return c == '_' || 'a' <= c && c <= 'z' || 'A' <= c && c <= 'Z'
}

func isDigit(c byte) bool {
	return '0' <= c && c <= '9'
}

// readDigits reads a number's text without its sign; false of any other text.
func readDigits(t string) (int, bool) {
	if len(t) == 0 || len(t) > maxDigits || len(t) > 1 && t[0] == '0' {
		return 0, false
	}
	n := 0
	for i := range len(t) {
		if !isDigit(t[i]) {
			return 0, false
		}
		n = n*10 + int(t[i]-'0')
	}
	return n, true
}

// readNumber reads a number's text; a `-` ahead of a lone nought would give 0 a second text.
func readNumber(t string) (int, bool) {
	if len(t) == 0 || t[0] != '-' {
		return readDigits(t)
	}
	n, ok := readDigits(t[1:])
	return -n, ok && n != 0
}
