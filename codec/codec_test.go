package codec_test

import (
	"encoding/binary"
	"math"
	"strings"
	"testing"

	"jettison/codec"
)

// noWidths: numbers that are no width, on both sides.
func noWidths() []int {
	return []int{0, -1, -2, -7, -8, -9, math.MinInt32, math.MinInt + 1, math.MinInt,
		9, 10, 15, 16, 64, 255, 256, 257, math.MaxInt32, math.MaxInt - 1, math.MaxInt}
}

// farPlaces: places that no text of the tests has, and from which a sum with a width would wrap.
func farPlaces() []int {
	return []int{-1, -2, -7, -8, -9, math.MinInt32, math.MinInt + 8, math.MinInt + 1, math.MinInt,
		1000, math.MaxInt32, 1 << 32, math.MaxInt - 8, math.MaxInt - 7, math.MaxInt - 1, math.MaxInt}
}

// numbers: the ends of every width, each bit alone, and bytes that tell which one stands where.
func numbers() []uint64 {
	l := []uint64{0, 1, 127, 128, 258, 0x0102030405060708, 0xf1e2d3c4b5a69788, 0x00ff00ff00ff00ff, math.MaxInt64, math.MaxUint64}
	for bit := range 64 {
		l = append(l, 1<<bit, 1<<bit-1, 1<<bit+1)
	}
	return l
}

// expected: the bytes of n by the library's own order, of which the last width are kept if the others are 0.
func expected(width int, n uint64) (string, bool) {
	all := string(binary.BigEndian.AppendUint64(nil, n))
	if width < 1 || width > 8 || strings.Trim(all[:8-width], "\x00") != "" {
		return "", false
	}
	return all[8-width:], true
}

func checkPut(t *testing.T, width int, n uint64, want string, ok bool) {
	t.Helper()
	if got, gotOK := codec.Put(width, n); got != want || gotOK != ok {
		t.Errorf("Put(%d, %#x) = %x, %t; want %x, %t", width, n, got, gotOK, want, ok)
	}
}

func checkGet(t *testing.T, s string, at, width int, want uint64, ok bool) {
	t.Helper()
	if got, gotOK := codec.Get(s, at, width); got != want || gotOK != ok {
		t.Errorf("Get(%x, %d, %d) = %#x, %t; want %#x, %t", s, at, width, got, gotOK, want, ok)
	}
}

func checkSet(t *testing.T, s string, at, width int, n uint64, want string, ok bool) {
	t.Helper()
	if got, gotOK := codec.Set(s, at, width, n); got != want || gotOK != ok {
		t.Errorf("Set(%x, %d, %d, %#x) = %x, %t; want %x, %t", s, at, width, n, got, gotOK, want, ok)
	}
}

func checkGetInt(t *testing.T, s string, at int, want int64, ok bool) {
	t.Helper()
	if got, gotOK := codec.GetInt(s, at); got != want || gotOK != ok {
		t.Errorf("GetInt(%x, %d) = %d, %t; want %d, %t", s, at, got, gotOK, want, ok)
	}
}

// P2.1: the chapter's example, and others that are written out.
func TestPut(t *testing.T) {
	checkPut(t, 2, 258, "\x01\x02", true)
	checkPut(t, 1, 0, "\x00", true)
	checkPut(t, 1, 7, "\x07", true)
	checkPut(t, 3, 258, "\x00\x01\x02", true)
	checkPut(t, 4, 0xfffefdfc, "\xff\xfe\xfd\xfc", true)
	checkPut(t, 8, 0, "\x00\x00\x00\x00\x00\x00\x00\x00", true)
	checkPut(t, 8, 258, "\x00\x00\x00\x00\x00\x00\x01\x02", true)
	checkPut(t, 8, 0x0102030405060708, "\x01\x02\x03\x04\x05\x06\x07\x08", true)
	checkPut(t, 8, math.MaxUint64, "\xff\xff\xff\xff\xff\xff\xff\xff", true)
}

// P2.1: a number that needs just the width, and one that needs more.
func TestPutAtTheEndsOfAWidth(t *testing.T) {
	for width := 1; width <= 7; width++ {
		first := uint64(1) << (8 * width)
		checkPut(t, width, first-1, strings.Repeat("\xff", width), true)
		checkPut(t, width, first>>8, "\x01"+strings.Repeat("\x00", width-1), true)
		checkPut(t, width, first, "", false)
		checkPut(t, width, first+1, "", false)
		checkPut(t, width, math.MaxUint64, "", false)
		checkPut(t, width, 1<<63, "", false)
		checkPut(t, width+1, first, "\x01"+strings.Repeat("\x00", width), true)
	}
}

// P2.1, P6: every width, and what is none, at many numbers.
func TestPutOfAll(t *testing.T) {
	for _, n := range numbers() {
		for width := 1; width <= 8; width++ {
			want, ok := expected(width, n)
			checkPut(t, width, n, want, ok)
		}
		for _, width := range noWidths() {
			checkPut(t, width, n, "", false)
		}
	}
}

// P2.1: places and widths that are written out, bytes above 127 and bytes of 0 too.
func TestGet(t *testing.T) {
	s := "\x00\x01\x02\x80\xff\xfe\x00\x07\x08\x09"
	checkGet(t, s, 0, 1, 0, true)
	checkGet(t, s, 1, 1, 1, true)
	checkGet(t, s, 4, 1, 255, true)
	checkGet(t, s, 0, 2, 1, true)
	checkGet(t, s, 1, 2, 258, true)
	checkGet(t, s, 3, 3, 0x80fffe, true)
	checkGet(t, s, 3, 4, 0x80fffe00, true)
	checkGet(t, s, 0, 8, 0x00010280fffe0007, true)
	checkGet(t, s, 2, 8, 0x0280fffe00070809, true)
	checkGet(t, "\xff\xff\xff\xff\xff\xff\xff\xff", 0, 8, math.MaxUint64, true)
	checkGet(t, "é", 0, 2, 0xc3a9, true)
}

// P2.1: the last place of a width, and the first where the bytes are not all there.
func TestGetAtTheEnd(t *testing.T) {
	whole := "\x11\x12\x13\x14\x15\x16\x17\x18\x19\x1a\x1b"
	for size := range len(whole) + 1 {
		s := whole[:size]
		for width := 1; width <= 8; width++ {
			for at := range size + 3 {
				want, ok := uint64(0), at+width <= size
				if ok {
					want = binary.BigEndian.Uint64([]byte(strings.Repeat("\x00", 8-width) + s[at:at+width]))
				}
				checkGet(t, s, at, width, want, ok)
			}
		}
	}
}

// P2.1, P6: no width, and places that are below 0 or far behind.
func TestGetRefuses(t *testing.T) {
	for _, s := range []string{"", "a", "abcdefgh", strings.Repeat("abcdefgh", 50)} {
		for _, width := range noWidths() {
			for _, at := range append(farPlaces(), 0, 1, len(s)) {
				checkGet(t, s, at, width, 0, false)
			}
		}
		for width := 1; width <= 8; width++ {
			for _, at := range farPlaces() {
				checkGet(t, s, at, width, 0, false)
			}
			checkGet(t, s, len(s), width, 0, false)
		}
	}
}

// P2.1: ahead, between, at the end, and all of it.
func TestSet(t *testing.T) {
	checkSet(t, "abcd", 0, 1, 0x7a, "zbcd", true)
	checkSet(t, "abcd", 1, 2, 0x3132, "a12d", true)
	checkSet(t, "abcd", 2, 2, 0x3132, "ab12", true)
	checkSet(t, "abcd", 3, 1, 0x7a, "abcz", true)
	checkSet(t, "abcd", 0, 4, 0x31323334, "1234", true)
	checkSet(t, "abcd", 0, 4, 1, "\x00\x00\x00\x01", true)
	checkSet(t, "abcd", 1, 2, 0x6263, "abcd", true)
	checkSet(t, "abcdefgh", 0, 8, math.MaxUint64, "\xff\xff\xff\xff\xff\xff\xff\xff", true)
	checkSet(t, "xabcdefghy", 1, 8, 0, "x\x00\x00\x00\x00\x00\x00\x00\x00y", true)
}

// P2.1, P6: refused as Put is, as Get is, and as both are.
func TestSetRefuses(t *testing.T) {
	checkSet(t, "abcd", 0, 1, 256, "", false)
	checkSet(t, "abcd", 0, 3, 1<<24, "", false)
	checkSet(t, "abcd", 3, 2, 0, "", false)
	checkSet(t, "abcd", 4, 1, 0, "", false)
	checkSet(t, "abcd", 0, 5, 0, "", false)
	checkSet(t, "", 0, 1, 0, "", false)
	checkSet(t, "abcd", 4, 1, 256, "", false)
	for _, s := range []string{"", "abcd", "abcdefghijkl"} {
		for _, at := range append(farPlaces(), 0, len(s)) {
			for _, width := range noWidths() {
				checkSet(t, s, at, width, 0, "", false)
				checkSet(t, s, at, width, math.MaxUint64, "", false)
			}
		}
		for _, at := range farPlaces() {
			for width := 1; width <= 8; width++ {
				checkSet(t, s, at, width, 0, "", false)
			}
		}
	}
}

// P2.1: Set tells false just where Put or Get does.
func TestSetTellsFalseAsPutAndGet(t *testing.T) {
	s := "abcdefghij"
	for _, n := range numbers() {
		for width := -1; width <= 10; width++ {
			for at := -2; at <= len(s)+2; at++ {
				put, okPut := codec.Put(width, n)
				_, okGet := codec.Get(s, at, width)
				if okPut && okGet {
					checkSet(t, s, at, width, n, s[:at]+put+s[at+width:], true)
				} else {
					checkSet(t, s, at, width, n, "", false)
				}
			}
		}
	}
}

// integers: numbers with a sign, around 0 and at the ends.
func integers() []int64 {
	l := []int64{0, 1, -1, 2, -2, 258, -258, math.MaxInt64, math.MaxInt64 - 1, math.MinInt64, math.MinInt64 + 1}
	for bit := range 63 {
		l = append(l, 1<<bit, -1<<bit)
	}
	return l
}

// P2.2: the 8 bytes modulo 2^64, of numbers below 0 too.
func TestInt(t *testing.T) {
	for _, c := range []struct {
		n    int64
		want string
	}{
		{0, "\x00\x00\x00\x00\x00\x00\x00\x00"},
		{1, "\x00\x00\x00\x00\x00\x00\x00\x01"},
		{258, "\x00\x00\x00\x00\x00\x00\x01\x02"},
		{-1, "\xff\xff\xff\xff\xff\xff\xff\xff"},
		{-2, "\xff\xff\xff\xff\xff\xff\xff\xfe"},
		{-256, "\xff\xff\xff\xff\xff\xff\xff\x00"},
		{math.MaxInt64, "\x7f\xff\xff\xff\xff\xff\xff\xff"},
		{math.MinInt64, "\x80\x00\x00\x00\x00\x00\x00\x00"},
	} {
		if got := codec.Int(c.n); got != c.want {
			t.Errorf("Int(%d) = %x; want %x", c.n, got, c.want)
		}
	}
	for _, n := range integers() {
		if want := string(binary.BigEndian.AppendUint64(nil, uint64(n))); codec.Int(n) != want {
			t.Errorf("Int(%d) = %x; want %x", n, codec.Int(n), want)
		}
	}
}

// P2.2, P2.3: the n whose Int stands there, wherever that is.
func TestGetInt(t *testing.T) {
	for _, n := range integers() {
		for ahead := range 4 {
			for behind := range 3 {
				s := strings.Repeat("\xaa", ahead) + codec.Int(n) + strings.Repeat("\x55", behind)
				checkGetInt(t, s, ahead, n, true)
				checkGetInt(t, s, ahead+behind+1, 0, false)
			}
		}
	}
	checkGetInt(t, "\x80\x00\x00\x00\x00\x00\x00\x00", 0, math.MinInt64, true)
	checkGetInt(t, "\x00\xff\xff\xff\xff\xff\xff\xff\xff", 1, -1, true)
}

// P2.2, P6: no 8 bytes, and places that are none.
func TestGetIntRefuses(t *testing.T) {
	whole := strings.Repeat("\xff", 8)
	for size := range 8 {
		checkGetInt(t, whole[:size], 0, 0, false)
		checkGetInt(t, whole, size+1, 0, false)
	}
	for _, at := range farPlaces() {
		checkGetInt(t, "", at, 0, false)
		checkGetInt(t, whole, at, 0, false)
		checkGetInt(t, strings.Repeat(whole, 4), at, 0, false)
	}
}

// P2.3: what was put is got, by itself and within other bytes.
func TestPutIsGot(t *testing.T) {
	for _, n := range numbers() {
		for width := 1; width <= 8; width++ {
			s, ok := codec.Put(width, n)
			if !ok {
				continue
			}
			if len(s) != width {
				t.Errorf("Put(%d, %#x) has %d bytes", width, n, len(s))
			}
			checkGet(t, s, 0, width, n, true)
			checkGet(t, "\xee"+s+"\xee", 1, width, n, true)
			checkGet(t, s, 1, width, 0, false)
		}
	}
}

// P2.3: what was set is got, and every other byte is what it was.
func TestSetIsGot(t *testing.T) {
	s := "\x00\xff\x80abc\x7f\x01zyx"
	for _, n := range numbers() {
		for width := 1; width <= 8; width++ {
			for at := range len(s) - width + 1 {
				turned, ok := codec.Set(s, at, width, n)
				if !ok {
					continue
				}
				checkGet(t, turned, at, width, n, true)
				if len(turned) != len(s) || turned[:at] != s[:at] || turned[at+width:] != s[at+width:] {
					t.Errorf("Set(%x, %d, %d, %#x) = %x: another byte was turned", s, at, width, n, turned)
				}
				was, _ := codec.Get(s, at, width)
				checkSet(t, turned, at, width, was, s, true)
			}
		}
	}
}

// P4: what is answered hangs on the arguments alone, whatever was asked ahead.
func TestSameAgain(t *testing.T) {
	for range 3 {
		checkPut(t, 2, 258, "\x01\x02", true)
		checkPut(t, 1, 258, "", false)
		checkGet(t, "abc", 1, 2, 0x6263, true)
		checkGet(t, "abc", 2, 2, 0, false)
		checkSet(t, "abc", 1, 1, 0x7a, "azc", true)
		checkSet(t, "abc", 3, 1, 0x7a, "", false)
		checkGetInt(t, codec.Int(-258), 0, -258, true)
		checkGetInt(t, codec.Int(-258), 1, 0, false)
	}
}
