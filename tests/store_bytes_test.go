package tests

import (
	"fmt"
	"hash/crc32"
	"math"
	"strings"
	"testing"

	"loop.example/g00208/impl"
)

func TestStoreConstants(t *testing.T) {
	if impl.PageData != 27 || impl.MaxBlob != 3000 {
		t.Error("PageData", impl.PageData, "MaxBlob", impl.MaxBlob)
	}
}

func TestPageSum(t *testing.T) {
	if n := impl.PageSum(nil); n != 0 {
		t.Error("PageSum of nothing", n)
	}
	if n := impl.PageSum([]byte("123456789")); n != 0xCBF43926 {
		t.Errorf("PageSum %x", n)
	}
	for c := range 256 {
		if n := impl.PageSum([]byte{byte(c)}); n != int(crc32.ChecksumIEEE([]byte{byte(c)})) {
			t.Errorf("PageSum of byte %d: %x", c, n)
		}
	}
	for _, size := range []int{0, 1, 2, 27, 28, 33, 255, 256, 1000, impl.MaxText - 1, impl.MaxText} {
		for _, seed := range []int{0, 1, 200} {
			b := []byte(blobOf(size, seed))
			if n := impl.PageSum(b); n != int(crc32.ChecksumIEEE(b)) {
				t.Errorf("PageSum of %d bytes: %x", size, n)
			}
		}
	}
	for _, size := range []int{impl.MaxText + 1, 2 * impl.MaxText} {
		if n := impl.PageSum([]byte(blobOf(size, 1))); n != 0 {
			t.Errorf("PageSum of %d bytes: %x", size, n)
		}
	}
}

// pageEdges are numbers of pages, with those that are none.
var pageEdges = []struct {
	n     int
	right bool
}{
	{2, true}, {3, true}, {254, true}, {255, true}, {0, false}, {1, false}, {-1, false}, {-2, false}, {256, false}, {257, false}, {258, false},
	{2 + 1<<32, false}, {math.MinInt, false}, {math.MinInt + 2, false}, {math.MaxInt, false},
}

var epochEdges = []struct {
	n     int
	right bool
}{
	{1, true}, {2, true}, {255, true}, {256, true}, {65536, true}, {1 << 24, true}, {1 << 31, true}, {lastEpoch - 1, true}, {lastEpoch, true},
	{0, false}, {-1, false}, {lastEpoch + 1, false}, {lastEpoch + 2, false}, {math.MinInt, false}, {math.MinInt + 1, false}, {math.MaxInt, false},
}

func checkPageBytes(t *testing.T, page, next, epoch int, data string, want int) {
	t.Helper()
	what := fmt.Sprintf("PageBytes %d %d %d, %d bytes", page, next, epoch, len(data))
	s, c := impl.PageBytes(page, next, epoch, data)
	code(t, what, c, want)
	if want != impl.OK {
		if s != "" {
			t.Error(what, "has a code and bytes")
		}
		return
	}
	if s != rawPage(page, next, epoch, data) {
		t.Errorf("%s: %q", what, s)
	}
	gotNext, gotData, c := impl.ReadPage(page, epoch, s)
	code(t, what+", read back", c, impl.OK)
	if gotNext != next || gotData != data+strings.Repeat("\x00", 27-len(data)) {
		t.Errorf("%s, read back: %d %q", what, gotNext, gotData)
	}
}

func rangeUnless(right bool) int {
	if right {
		return impl.OK
	}
	return impl.ErrRange
}

func TestPageBytes(t *testing.T) {
	for _, page := range pageEdges {
		checkPageBytes(t, page.n, 9, 3, "data", rangeUnless(page.right))
		checkPageBytes(t, 9, page.n, 3, "data", rangeUnless(page.right || page.n == 0))
		checkPageBytes(t, page.n, page.n, 3, "data", rangeUnless(page.right))
	}
	for _, epoch := range epochEdges {
		checkPageBytes(t, 5, 0, epoch.n, "data", rangeUnless(epoch.right))
	}
	for size := range 28 {
		checkPageBytes(t, 255, 0, lastEpoch, blobOf(size, 3), impl.OK)
		checkPageBytes(t, 2, 255, 1, strings.Repeat("\x00", size), impl.OK)
	}
	for _, size := range []int{28, 32, 283, impl.MaxText} {
		checkPageBytes(t, 2, 0, 1, strings.Repeat("\x00", size), impl.ErrRange)
	}
	long := strings.Repeat("a", impl.MaxText+1)
	checkPageBytes(t, 2, 0, 1, long, impl.ErrLong)
	checkPageBytes(t, 1, 1, 0, long, impl.ErrLong)
}

func checkReadPage(t *testing.T, page, epoch int, sector string, want int) {
	t.Helper()
	what := fmt.Sprintf("ReadPage %d %d, %.40q", page, epoch, sector)
	next, data, c := impl.ReadPage(page, epoch, sector)
	code(t, what, c, want)
	if want != impl.OK && (next != 0 || data != "") {
		t.Error(what, "has a code, and more than that")
	}
}

// A sector that has the bytes of another page or epoch, or one other byte, is not read.
func TestReadPageFindsWhatIsChanged(t *testing.T) {
	s := rawPage(5, 9, 258, blobOf(27, 1))
	for page := 2; page <= 255; page++ {
		want := impl.ErrSum
		if page == 5 {
			want = impl.OK
		}
		checkReadPage(t, page, 258, s, want)
	}
	for _, epoch := range []int{1, 2, 257, 259, 258 + 1<<16, 258 + 1<<24, lastEpoch} {
		checkReadPage(t, 5, epoch, s, impl.ErrSum)
	}
	for at := range s {
		for c := 1; c < 256; c++ {
			b := []byte(s)
			b[at] ^= byte(c)
			checkReadPage(t, 5, 258, string(b), impl.ErrSum)
		}
	}
	checkReadPage(t, 5, 258, sector(0), impl.ErrSum)
	checkReadPage(t, 5, 258, sector(255), impl.ErrSum)
}

func TestReadPageCodes(t *testing.T) {
	s := rawPage(5, 9, 3, "data")
	for _, page := range pageEdges {
		if !page.right {
			checkReadPage(t, page.n, 3, rawPage(page.n, 9, 3, "data"), impl.ErrRange)
			checkReadPage(t, page.n, 3, "short", impl.ErrRange)
		}
	}
	for _, epoch := range epochEdges {
		if !epoch.right {
			checkReadPage(t, 5, epoch.n, rawPage(5, 9, epoch.n, "data"), impl.ErrRange)
			checkReadPage(t, 5, epoch.n, "", impl.ErrRange)
		}
	}
	for _, wrong := range []string{"", s[:31], s + "\x00", s + s, strings.Repeat("a", impl.MaxText)} {
		checkReadPage(t, 5, 3, wrong, impl.ErrBad)
	}
	long := strings.Repeat("a", impl.MaxText+1)
	checkReadPage(t, 5, 3, long, impl.ErrLong)
	checkReadPage(t, 1, 0, long, impl.ErrLong)
	checkReadPage(t, 5, 3, s, impl.OK)
}

// The codes of ReadPage tell nothing of the next one's number: 1 is read as it stands.
func TestReadPageThatLeadsToAMeta(t *testing.T) {
	next, data, c := impl.ReadPage(5, 3, rawPage(5, 1, 3, blobOf(27, 4)))
	if next != 1 || data != blobOf(27, 4) || c != impl.OK {
		t.Errorf("ReadPage %d %q %d", next, data, c)
	}
}

func rightMetas() []impl.Meta {
	list := []impl.Meta{
		{Epoch: 258, First: 7, Length: 300}, {Epoch: 1}, {Epoch: lastEpoch}, {Epoch: 1, First: 2, Length: 1}, {Epoch: lastEpoch, First: 255, Length: impl.MaxBlob},
		{Epoch: 1, First: 254, Length: impl.MaxBlob - 1}, {Epoch: 2, First: 3, Length: 255}, {Epoch: 3, First: 3, Length: 256},
	}
	for _, epoch := range epochEdges {
		if epoch.right {
			list = append(list, impl.Meta{Epoch: epoch.n, First: 9, Length: 28}, impl.Meta{Epoch: epoch.n})
		}
	}
	return list
}

func wrongMetas() []impl.Meta {
	list := []impl.Meta{
		{}, {Epoch: 1, First: 2}, {Epoch: 1, First: 255}, {Epoch: 1, First: 1}, {Epoch: 1, First: -1}, {Epoch: 1, Length: 1}, {Epoch: 1, Length: impl.MaxBlob},
		{Epoch: 1, First: 1, Length: 1}, {Epoch: 1, First: 256, Length: 1}, {Epoch: 1, First: -1, Length: 1}, {Epoch: 1, First: 258, Length: 1},
		{Epoch: 1, First: 2, Length: impl.MaxBlob + 1}, {Epoch: 1, First: 2, Length: -1}, {Epoch: 1, First: 0, Length: -1}, {Epoch: 1, First: 2, Length: 65536}, {Epoch: 1, First: 2, Length: 65537},
		{Epoch: 1, First: math.MinInt, Length: 1}, {Epoch: 1, First: math.MaxInt, Length: 1}, {Epoch: 1, First: 2, Length: math.MinInt}, {Epoch: 1, First: 2, Length: math.MaxInt},
	}
	for _, epoch := range epochEdges {
		if !epoch.right {
			list = append(list, impl.Meta{Epoch: epoch.n, First: 9, Length: 28}, impl.Meta{Epoch: epoch.n})
		}
	}
	return list
}

func TestMetas(t *testing.T) {
	for _, m := range rightMetas() {
		s, c := impl.MetaBytes(m)
		code(t, fmt.Sprint("MetaBytes ", m), c, impl.OK)
		if s != rawMeta(m) {
			t.Errorf("MetaBytes %v: %q", m, s)
		}
		back, c := impl.ReadMeta(rawMeta(m))
		code(t, fmt.Sprint("ReadMeta ", m), c, impl.OK)
		if back != m {
			t.Errorf("ReadMeta of %v: %v", m, back)
		}
	}
	for _, m := range wrongMetas() {
		s, c := impl.MetaBytes(m)
		code(t, fmt.Sprint("MetaBytes ", m), c, impl.ErrBad)
		if s != "" {
			t.Errorf("MetaBytes %v has a code and bytes", m)
		}
	}
}

func checkNoMeta(t *testing.T, what, sector string, want int) {
	t.Helper()
	m, c := impl.ReadMeta(sector)
	code(t, "ReadMeta of "+what, c, want)
	if m != (impl.Meta{}) {
		t.Error("ReadMeta of", what, "has a code and", m)
	}
}

// withMark has other bytes at its beginning, and the right sum of them.
func withMark(mark string, m impl.Meta) string {
	return sealed(nil, append([]byte(mark), rawMeta(m)[2:28]...))
}

func TestReadMetaFindsWhatIsWrong(t *testing.T) {
	m := impl.Meta{Epoch: 258, First: 7, Length: 300}
	s := rawMeta(m)
	for at := range s {
		for c := 1; c < 256; c++ {
			b := []byte(s)
			b[at] ^= byte(c)
			checkNoMeta(t, fmt.Sprint("a byte changed at ", at), string(b), impl.ErrForm)
		}
	}
	for _, mark := range []string{"mt", "MU", "NT", "TM", "\x00\x00", "BK"} {
		checkNoMeta(t, "mark "+mark, withMark(mark, m), impl.ErrForm)
	}
	for at := range 19 {
		behind := make([]byte, 19)
		behind[at] = 1
		checkNoMeta(t, fmt.Sprint("no nought at ", 9+at), rawMeta(m, behind...), impl.ErrForm)
	}
	for _, wrong := range []impl.Meta{
		{Epoch: 0, First: 7, Length: 300}, {Epoch: 0}, {Epoch: 1, First: 2}, {Epoch: 1, First: 1}, {Epoch: 1, Length: 1}, {Epoch: 1, First: 1, Length: 1},
		{Epoch: 1, First: 2, Length: impl.MaxBlob + 1}, {Epoch: 1, First: 2, Length: 65535}, {Epoch: 1, Length: impl.MaxBlob + 1},
	} {
		checkNoMeta(t, fmt.Sprint(wrong), rawMeta(wrong), impl.ErrForm)
	}
	checkNoMeta(t, "noughts", sector(0), impl.ErrForm)
	checkNoMeta(t, "a page", rawPage(5, 9, 3, "data"), impl.ErrForm)
	for _, wrong := range []string{"", s[:31], s + "\x00", s + s, strings.Repeat("a", impl.MaxText)} {
		checkNoMeta(t, fmt.Sprint(len(wrong), " bytes"), wrong, impl.ErrBad)
	}
	checkNoMeta(t, "a long text", strings.Repeat("a", impl.MaxText+1), impl.ErrLong)
}
