package tests

import (
	"encoding/binary"
	"hash/crc32"
	"slices"
	"strings"
	"testing"

	"loop.example/g00208/impl"
)

// someBytes are such as may be sealed.
func someBytes() [][]byte {
	list := [][]byte{nil, {}, {0}, {255}, []byte("hi"), []byte("BK"), []byte("BK\x00\x00\x00\x00"), sealOf(nil), sealOf([]byte("hi"))}
	for _, size := range []int{1, 9, 10, 53, 54, 55, 63, 64, 65, 118, 255, 256, 257, 65525, 65526} {
		list = append(list, []byte(blobOf(size, size)), make([]byte, size))
	}
	return list
}

// Seals written out here stand beside those by the document's words.
func TestBytesOfSeals(t *testing.T) {
	for _, c := range []struct{ bytes, want string }{
		{"", "BK\x00\x00\x00\x00\x9c\x63\x71\xdc"},
		{"hi", "BK\x00\x00\x00\x02hi\x47\xd7\x58\xd2"},
	} {
		got := wantSeal(t, []byte(c.bytes), impl.OK)
		n := impl.PageSum(got[:len(got)-4])
		if string(got[len(got)-4:]) != string([]byte{byte(n), byte(n >> 8), byte(n >> 16), byte(n >> 24)}) {
			t.Errorf("the sum of %q is %x", c.bytes, n)
		}
		if string(got) != c.want {
			t.Errorf("a seal is %q, want %q", got, c.want)
		}
	}
	for _, b := range someBytes() {
		seal := wantSeal(t, b, impl.OK)
		if opened := wantOpen(t, seal, impl.OK); string(opened) != string(b) || len(seal) != len(b)+10 {
			t.Errorf("%d bytes are sealed as %d, opened as %d", len(b), len(seal), len(opened))
		}
	}
}

func TestHowMuchMayBeSealed(t *testing.T) {
	for _, fill := range []string{"\x00", "B", "\xff"} {
		wantSeal(t, []byte(strings.Repeat(fill, mostSealed)), impl.OK)
		for _, size := range []int{mostSealed + 1, impl.MaxText, impl.MaxText + 1, 2 * impl.MaxText} {
			wantSeal(t, []byte(strings.Repeat(fill, size)), impl.ErrLong)
		}
	}
	most := sealOf([]byte(strings.Repeat("a", mostSealed)))
	wantOpen(t, most, impl.OK)
	wantOpen(t, most[1:], impl.ErrForm)
	more := sealOf([]byte(strings.Repeat("a", mostSealed+1)))
	wantOpen(t, more, impl.ErrLong)
	wantOpen(t, more[1:], impl.ErrForm)
	wantOpen(t, rawSeal("XX", mostSealed+1, strings.Repeat("a", mostSealed+1), 7), impl.ErrLong)
	wantOpen(t, rawSeal("XX", mostSealed, strings.Repeat("a", mostSealed), 7), impl.ErrForm)
	wantOpen(t, rawSeal("BK", mostSealed, strings.Repeat("a", mostSealed), 7), impl.ErrSum)
}

func TestBytesThatAreNoSeals(t *testing.T) {
	for _, mark := range []string{"KB", "bk", "BL", "AK", "Bk", "\x00\x00", "B\x00", "\x00K", "MT"} {
		wantOpen(t, rawSeal(mark, 2, "hi", 0), impl.ErrForm)
		wantOpen(t, rawSeal(mark, 0, "", 0), impl.ErrForm)
		wantOpen(t, rawSeal(mark, 3, "hi", 1), impl.ErrForm)
	}
	for _, mark := range []string{"", "B", "K", "BKB", " BK"} { // all else is elsewhere then
		wantOpen(t, rawSeal(mark, 2, "hi", 0), impl.ErrForm)
	}
	for size := range 10 {
		wantOpen(t, sealOf(nil)[:size], impl.ErrForm)
		wantOpen(t, sealOf(nil)[10-size:], impl.ErrForm)
		wantOpen(t, make([]byte, size), impl.ErrForm)
		wantOpen(t, []byte("BKBKBKBKB")[:size], impl.ErrForm)
	}
	wantOpen(t, sealOf(nil), impl.OK)
}

// A length that is wrong counts ahead of the sum, right or wrong.
func TestLengthsOfSeals(t *testing.T) {
	for _, bytes := range []string{"", "h", "hi", blobOf(300, 3)} {
		for _, length := range []int{len(bytes) - 1, len(bytes) + 1, len(bytes) + 4, len(bytes) + 10, len(bytes) + 256, len(bytes) + 65536, len(bytes) + 1<<24, len(bytes) + 1<<31, 1<<32 - 1, 1<<32 - 10, 1<<32 - 11, 1<<31 - 1} {
			for _, turned := range []uint32{0, 1, 1 << 31} {
				wantOpen(t, rawSeal("BK", length, bytes, turned), impl.ErrForm)
			}
		}
		seal := sealOf([]byte(bytes))
		for _, behind := range []string{"\x00", "a", "\x00\x00\x00\x00", string(seal)} {
			wantOpen(t, []byte(string(seal)+behind), impl.ErrForm)
		}
		lowest := slices.Clone(seal) // the length's lowest byte first is none, but of a length that is nought
		slices.Reverse(lowest[2:6])
		if len(bytes) > 0 {
			wantOpen(t, lowest, impl.ErrForm)
		}
	}
}

func TestSumsOfSeals(t *testing.T) {
	for _, bytes := range []string{"", "hi", blobOf(300, 3)} {
		for bit := range 32 {
			wantOpen(t, rawSeal("BK", len(bytes), bytes, 1<<bit), impl.ErrSum)
		}
		seal := sealOf([]byte(bytes))
		highest := slices.Clone(seal)
		slices.Reverse(highest[len(seal)-4:])
		wantOpen(t, highest, impl.ErrSum)
		wantOpen(t, append(seal[:len(seal)-4:len(seal)-4], 0, 0, 0, 0), impl.ErrSum)
		wantOpen(t, append(seal[:len(seal)-4:len(seal)-4], 255, 255, 255, 255), impl.ErrSum)
		alone := binary.LittleEndian.AppendUint32(nil, crc32.ChecksumIEEE([]byte(bytes))) // mark and length are summed up, too
		wantOpen(t, append(seal[:len(seal)-4:len(seal)-4], alone...), impl.ErrSum)
	}
}

func TestRolledBytesAsSeals(t *testing.T) {
	d := &dice{state: 1710}
	for range 3000 {
		b := sealOf([]byte(blobOf(d.below(40), d.below(256))))
		for range d.below(3) {
			b[d.below(len(b))] = byte(d.below(256))
		}
		b = b[:len(b)-max(0, d.below(24)-20)]
		_, by := openByWords(b)
		wantOpen(t, b, by)
	}
}
