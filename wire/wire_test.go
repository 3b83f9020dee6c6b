package wire_test

import (
	"encoding/binary"
	"math"
	"slices"
	"strings"
	"testing"

	"jettison/api"
	"jettison/schema"
	"jettison/wire"
)

func event(kind int, time int64, v ...int64) wire.Event {
	return wire.Event{Kind: kind, Time: time, V: v}
}

// integers: numbers with a sign, around 0, at the ends, each bit alone, and one whose bytes tell which stands where.
func integers() []int64 {
	l := []int64{0, 1, -1, 2, -2, 255, 256, -256, 258, 0x0102030405060708, -0x0102030405060708,
		math.MaxInt64, math.MaxInt64 - 1, math.MinInt64, math.MinInt64 + 1}
	for bit := range 63 {
		l = append(l, 1<<bit, -1<<bit)
	}
	return l
}

// noKinds: numbers that no byte has, also such as would be a right one if more than a byte of them were let go.
func noKinds() []int {
	return []int{-1, -2, -128, -255, -256, -257, math.MinInt32, math.MinInt + 1, math.MinInt,
		256, 257, 258, 511, 512, 1 << 16, math.MaxInt32, 1 << 32, 1<<32 + 7, 1 << 56, math.MaxInt - 1, math.MaxInt}
}

// noCounts: how many V are too many, also such as would be few if more than a byte of them were let go.
func noCounts() []int {
	return []int{9, 10, 11, 16, 17, 127, 128, 255, 256, 257, 264, 265, 512, 520, 1 << 16, 1<<16 + 1}
}

// values: n of them, each another one, of all signs.
func values(n int) []int64 {
	all := integers()
	var l []int64
	for i := range n {
		l = append(l, all[i%len(all)]+int64(i/len(all)))
	}
	return l
}

// expected: the bytes of e by the chapter's words and the library's own order of bytes.
func expected(e wire.Event) (string, bool) {
	if e.Kind < 0 || e.Kind > 255 || len(e.V) > 8 {
		return "", false
	}
	b := []byte{byte(e.Kind), byte(len(e.V))}
	for _, n := range append([]int64{e.Time}, e.V...) {
		b = binary.BigEndian.AppendUint64(b, uint64(n))
	}
	return string(b), true
}

// equal is Same by the test's own words.
func equal(a, b wire.Event) bool {
	if a.Kind != b.Kind || a.Time != b.Time || len(a.V) != len(b.V) {
		return false
	}
	for i := range a.V {
		if a.V[i] != b.V[i] {
			return false
		}
	}
	return true
}

// checkPut asks Put and Size: of what is not put there are no bytes.
func checkPut(t *testing.T, e wire.Event, want string, ok bool) {
	t.Helper()
	if got, gotOK := wire.Put(e); got != want || gotOK != ok {
		t.Errorf("Put(%v) = %x, %t; want %x, %t", e, got, gotOK, want, ok)
	}
	if got := wire.Size(e); got != len(want) {
		t.Errorf("Size(%v) = %d; want %d", e, got, len(want))
	}
}

func checkGet(t *testing.T, s string, want wire.Event) {
	t.Helper()
	if got, err := wire.Get(s); err != api.OK || !equal(got, want) {
		t.Errorf("Get(%x) = %v, %d; want %v, OK", s, got, err, want)
	}
}

func checkNoEvent(t *testing.T, s string) {
	t.Helper()
	if got, err := wire.Get(s); err != api.ErrForm || !equal(got, wire.Event{}) {
		t.Errorf("Get(%x) = %v, %d; want nothing, ErrForm", s, got, err)
	}
}

func checkSame(t *testing.T, a, b wire.Event, want bool) {
	t.Helper()
	if got := wire.Same(a, b); got != want {
		t.Errorf("Same(%v, %v) = %t; want %t", a, b, got, want)
	}
	if got := wire.Same(b, a); got != want {
		t.Errorf("Same(%v, %v) = %t; want %t", b, a, got, want)
	}
}

func checkFits(t *testing.T, s []schema.Kind, e wire.Event, want api.Errno) {
	t.Helper()
	if got := wire.Fits(s, e); got != want {
		t.Errorf("Fits(%q, %v) = %d; want %d", s, e, got, want)
	}
}

const zeros = "\x00\x00\x00\x00\x00\x00\x00\x00"

// P5.1: bytes that are written out, of Put, Size and Get.
func TestWrittenOut(t *testing.T) {
	for _, c := range []struct {
		e wire.Event
		s string
	}{
		{event(0, 0), "\x00\x00" + zeros},
		{event(1, 0), "\x01\x00" + zeros},
		{event(255, 0), "\xff\x00" + zeros},
		{event(0, 1), "\x00\x00\x00\x00\x00\x00\x00\x00\x00\x01"},
		{event(3, 258), "\x03\x00\x00\x00\x00\x00\x00\x00\x01\x02"},
		{event(3, -2), "\x03\x00\xff\xff\xff\xff\xff\xff\xff\xfe"},
		{event(9, math.MaxInt64), "\x09\x00\x7f\xff\xff\xff\xff\xff\xff\xff"},
		{event(9, math.MinInt64), "\x09\x00\x80\x00\x00\x00\x00\x00\x00\x00"},
		{event(128, 7, 0), "\x80\x01\x00\x00\x00\x00\x00\x00\x00\x07" + zeros},
		{event(2, 258, -1, 3), "\x02\x02\x00\x00\x00\x00\x00\x00\x01\x02\xff\xff\xff\xff\xff\xff\xff\xff\x00\x00\x00\x00\x00\x00\x00\x03"},
		{event(7, 0, 0, 0, 0, 0, 0, 0, 0, 1), "\x07\x08" + strings.Repeat(zeros, 8) + "\x00\x00\x00\x00\x00\x00\x00\x01"},
	} {
		checkPut(t, c.e, c.s, true)
		checkGet(t, c.s, c.e)
	}
}

// P5.1: each kind that a byte has, with as many V as there may be, and those beside them.
func TestPutOfEachKind(t *testing.T) {
	for kind := -300; kind <= 600; kind++ {
		for count := range 11 {
			e := event(kind, -5, values(count)...)
			want, ok := expected(e)
			checkPut(t, e, want, ok)
			if inside := kind >= 0 && kind <= 255 && count <= api.MaxFields; ok != inside {
				t.Fatalf("expected(%v) tells %t", e, ok)
			}
		}
	}
}

// P5.1, P6: what may not be put, for its kind, for its V, and for both.
func TestPutRefuses(t *testing.T) {
	for _, kind := range noKinds() {
		for count := range api.MaxFields + 1 {
			checkPut(t, event(kind, 1, values(count)...), "", false)
		}
	}
	for _, count := range noCounts() {
		for _, kind := range append(noKinds(), 0, 1, 8, 9, 255) {
			checkPut(t, event(kind, 1, values(count)...), "", false)
		}
	}
}

// P5.1, P5.3: each number, as the time and at each place of V.
func TestNumbers(t *testing.T) {
	for _, n := range integers() {
		for count := range api.MaxFields + 1 {
			for at := -1; at < count; at++ {
				e := event(77, 3, values(count)...)
				if at < 0 {
					e.Time = n
				} else {
					e.V[at] = n
				}
				want, _ := expected(e)
				checkPut(t, e, want, true)
				checkGet(t, want, e)
			}
		}
	}
}

// P5.1: how many bytes Put has, in numbers that are written out.
func TestSize(t *testing.T) {
	for count, want := range []int{10, 18, 26, 34, 42, 50, 58, 66, 74, 0, 0} {
		for _, kind := range []int{0, 1, 15, 16, 255} {
			if got := wire.Size(event(kind, math.MinInt64, values(count)...)); got != want {
				t.Errorf("Size of kind %d with %d V = %d; want %d", kind, count, got, want)
			}
		}
		for _, kind := range noKinds() {
			if got := wire.Size(event(kind, 0, values(count)...)); got != 0 {
				t.Errorf("Size of kind %d with %d V = %d; want 0", kind, count, got)
			}
		}
	}
}

// P5.1: each number of V that a byte can tell, before each number of bytes: one length alone is right.
func TestGetOfEachCountAndLength(t *testing.T) {
	for count := range 256 {
		for behind := range 100 {
			s := "\x05" + string([]byte{byte(count)}) + strings.Repeat("\x81", behind)
			if count > 8 || behind != 8+8*count {
				checkNoEvent(t, s)
				continue
			}
			e := wire.Event{Kind: 5, Time: -0x7e7e7e7e7e7e7e7f}
			for range count {
				e.V = append(e.V, e.Time)
			}
			checkGet(t, s, e)
		}
	}
}

// P5.1: above MaxFields there is no event, though all the bytes that the count asks are there.
func TestGetOfTooManyV(t *testing.T) {
	for count := 9; count <= 255; count++ {
		checkNoEvent(t, "\x00"+string([]byte{byte(count)})+strings.Repeat(zeros, 1+count))
		checkNoEvent(t, "\x00"+string([]byte{byte(count)})+strings.Repeat(zeros, 1+count%8))
	}
}

// P5.1: the chapter's example; bytes too few and too many, of events that were put.
func TestGetRefuses(t *testing.T) {
	checkNoEvent(t, "")
	for count := range api.MaxFields + 1 {
		s, _ := expected(event(200, 258, values(count)...))
		for size := range s {
			checkNoEvent(t, s[:size])
			if size > 0 {
				checkNoEvent(t, s+s[:size])
			}
		}
		checkNoEvent(t, s+s)
		checkNoEvent(t, s+"\x00")
		checkNoEvent(t, s+zeros)
		checkNoEvent(t, s+strings.Repeat("x", 1<<16))
		for other := range 256 {
			if other != count {
				checkNoEvent(t, s[:1]+string([]byte{byte(other)})+s[2:])
			}
		}
	}
}

// P5.1: texts of one byte and of two have no time; each of them is refused.
func TestGetOfShortTexts(t *testing.T) {
	for first := range 256 {
		checkNoEvent(t, string([]byte{byte(first)}))
		for second := range 256 {
			checkNoEvent(t, string([]byte{byte(first), byte(second)}))
		}
	}
}

// P5.1, P5: each field is held against the other's; V of nothing is the same as nil.
func TestSame(t *testing.T) {
	checkSame(t, wire.Event{}, wire.Event{}, true)
	checkSame(t, wire.Event{}, wire.Event{V: []int64{}}, true)
	checkSame(t, wire.Event{}, wire.Event{V: []int64{0}}, false)
	checkSame(t, event(2, 258, -1, 3), event(2, 258, -1, 3), true)
	checkSame(t, event(2, 258, -1, 3), event(1, 258, -1, 3), false)
	checkSame(t, event(2, 258, -1, 3), event(2, 259, -1, 3), false)
	checkSame(t, event(2, 258, -1, 3), event(2, -258, -1, 3), false)
	checkSame(t, event(2, 258, -1, 3), event(2, 258, 3, -1), false)
	checkSame(t, event(2, 258, -1, 3), event(2, 258, -1), false)
	checkSame(t, event(2, 258, -1, 3), event(2, 258, 3), false)
	checkSame(t, event(2, 258, -1, 3), event(2, 258, -1, 3, 0), false)
	checkSame(t, event(2, 258, -1, 3), event(2, 258), false)
	checkSame(t, event(2, 258), event(258, 2), false)
	checkSame(t, event(0, math.MinInt64), event(0, math.MaxInt64), false)
	checkSame(t, event(0, 0, math.MinInt64), event(0, 0, math.MaxInt64), false)
}

// P5.1: one place of V that differs, at each place; V as long as may be, and longer.
func TestSameAtEachPlace(t *testing.T) {
	for _, count := range append(noCounts(), 1, 2, 7, 8) {
		a := event(4, 4, values(count)...)
		checkSame(t, a, event(4, 4, values(count)...), true)
		checkSame(t, a, event(4, 4, values(count)[:count-1]...), false)
		for at := 0; at < count; at += 1 + count/50 {
			b := event(4, 4, values(count)...)
			b.V[at]++
			if wire.Same(a, b) || wire.Same(b, a) {
				t.Errorf("Same of %d V tells true, though they differ at %d", count, at)
			}
		}
	}
}

// P5.1: events that have no Put are the same, or not, as others are.
func TestSameOfWhatIsNotPut(t *testing.T) {
	for _, kind := range noKinds() {
		checkSame(t, event(kind, 1, 2), event(kind, 1, 2), true)
		checkSame(t, event(kind, 1, 2), event(kind, 1, 3), false)
		checkSame(t, event(kind, 1, 2), event(int(byte(kind)), 1, 2), false)
	}
}

// kinds: one for each number of fields that there may be, the first without any.
func kinds() []schema.Kind {
	fields := []string{"a", "b", "c", "d", "e", "f", "g", "h"}
	var s []schema.Kind
	for i := range len(fields) + 1 {
		s = append(s, schema.Kind{Name: "K" + string(rune('0'+i)), Fields: fields[:i]})
	}
	return s
}

// P5.2: each kind that there is, with as many V as it has fields, and with each other number.
func TestFits(t *testing.T) {
	s := kinds()
	for kind := range s {
		for _, count := range append(noCounts(), 0, 1, 2, 3, 4, 5, 6, 7, 8) {
			want := api.ErrForm
			if count == kind {
				want = api.OK
			}
			checkFits(t, s, event(kind, math.MinInt64, values(count)...), want)
		}
	}
}

// P5.2, P6: a kind that there is not is told ahead of the number of its V, whatever that is.
func TestFitsOfNoKind(t *testing.T) {
	for size := range len(kinds()) + 1 {
		s := kinds()[:size]
		for _, kind := range append(noKinds(), -1, size, size+1, 255) {
			for _, count := range []int{0, 1, size, 8, 9} {
				checkFits(t, s, event(kind, 0, values(count)...), api.ErrName)
			}
		}
	}
	checkFits(t, nil, wire.Event{}, api.ErrName)
	checkFits(t, []schema.Kind{}, wire.Event{}, api.ErrName)
}

// P5.2: the time is not asked, nor are the numbers of V.
func TestFitsOfAnyNumbers(t *testing.T) {
	s := []schema.Kind{{Name: "A"}, {Name: "B", Fields: []string{"x"}}}
	for _, n := range integers() {
		checkFits(t, s, event(0, n), api.OK)
		checkFits(t, s, event(1, n, n), api.OK)
		checkFits(t, s, event(1, n), api.ErrForm)
		checkFits(t, s, event(0, n, n), api.ErrForm)
		checkFits(t, s, event(2, n, n), api.ErrName)
	}
}

// P5.2, P1: kinds may be any: whether they are right, and whether the event has a Put, is not asked.
func TestFitsOfKindsThatAreNotRight(t *testing.T) {
	s := make([]schema.Kind, 300)
	s[299].Fields = make([]string, 9)
	checkFits(t, s, event(0, 0), api.OK)
	checkFits(t, s, event(0, 0, 1), api.ErrForm)
	checkFits(t, s, event(298, 0), api.OK)
	checkFits(t, s, event(299, 0, values(9)...), api.OK)
	checkFits(t, s, event(299, 0, values(8)...), api.ErrForm)
	checkFits(t, s, event(300, 0), api.ErrName)
	checkFits(t, []schema.Kind{{}}, wire.Event{}, api.OK)
	checkFits(t, []schema.Kind{{Fields: []string{}}}, wire.Event{V: []int64{}}, api.OK)
}

// P5.3: what is put is got as the same, for each kind and each number of V.
func TestPutIsGot(t *testing.T) {
	for kind := range 256 {
		for count := range api.MaxFields + 1 {
			e := event(kind, int64(kind*count)-1000, values(count)...)
			s, ok := wire.Put(e)
			if !ok {
				t.Fatalf("Put(%v) tells false", e)
			}
			checkGet(t, s, e)
			if got, _ := wire.Get(s); !wire.Same(got, e) {
				t.Errorf("Get(Put(%v)) = %v", e, got)
			}
		}
	}
}

// P5.3: what is got is put as it was: bytes of all kinds, of right lengths and of others.
func TestGotIsPut(t *testing.T) {
	mixed := uint32(1)
	next := func() byte {
		mixed = mixed*1664525 + 1013904223
		return byte(mixed >> 24)
	}
	for range 300 {
		for count := range 11 {
			for more := -2; more <= 2; more++ {
				b := []byte{next(), byte(count)}
				for range 8 + 8*count + more {
					b = append(b, next())
				}
				e, err := wire.Get(string(b))
				if right := count <= 8 && more == 0; right != (err == api.OK) {
					t.Errorf("Get(%x) tells %d", b, err)
				}
				if err == api.OK {
					checkPut(t, e, string(b), true)
				}
			}
		}
	}
}

// P5.3: no two events are put as the same bytes.
func TestPutTellsEventsApart(t *testing.T) {
	seen := map[string]wire.Event{}
	for _, kind := range []int{0, 1, 2, 255} {
		for _, n := range integers() {
			for _, v := range [][]int64{nil, {0}, {n}, {0, n}, {n, 0}, {n, n}} {
				e := event(kind, n, v...)
				s, _ := wire.Put(e)
				if other, there := seen[s]; there && !wire.Same(other, e) {
					t.Errorf("%v and %v are both put as %x", other, e, s)
				}
				seen[s] = e
			}
		}
	}
}

// P3: neither V nor what stands behind it in its array is written into, nor are the kinds.
func TestNothingIsWrittenInto(t *testing.T) {
	behind := values(20)
	for count := range 12 {
		e := wire.Event{Kind: 1, Time: 2, V: behind[:count]}
		s := kinds()
		wire.Put(e)
		wire.Size(e)
		wire.Fits(s, e)
		wire.Same(e, event(1, 2, values(count)...))
		if !slices.Equal(behind, values(20)) {
			t.Fatalf("V was written into: %v", behind)
		}
		if !schema.Same(s, kinds()) {
			t.Fatalf("the kinds were written into: %q", s)
		}
	}
}

// P3: what Get answers is new each time, spare room too; what is done to it is seen nowhere else.
func TestGotIsNew(t *testing.T) {
	for count := range api.MaxFields + 1 {
		e := event(1, 2, values(count)...)
		s, _ := wire.Put(e)
		first, _ := wire.Get(s)
		second, _ := wire.Get(s)
		for i := range first.V[:cap(first.V)] {
			first.V[:cap(first.V)][i] = 99
		}
		_ = append(first.V, 98, 97)
		if !equal(second, e) {
			t.Errorf("what was got second was turned into %v", second)
		}
		checkGet(t, s, e)
	}
}

// P4: what is answered hangs on the arguments alone: what was wrong ahead is not told again.
func TestSameAgain(t *testing.T) {
	s := kinds()
	for range 3 {
		checkPut(t, event(0, 0), "\x00\x00"+zeros, true)
		checkPut(t, event(256, 0), "", false)
		checkGet(t, "\x00\x00"+zeros, event(0, 0))
		checkNoEvent(t, "\x00\x01"+zeros)
		checkFits(t, s, event(1, 0, 5), api.OK)
		checkFits(t, s, event(1, 0), api.ErrForm)
		checkFits(t, s, event(-1, 0), api.ErrName)
	}
}

// P1: what ends a call is caught at its own face: a panic of the caller, of the same kind, is left to the caller.
func TestPanicOfTheCallerIsLeft(t *testing.T) {
	for _, call := range []func(){
		func() { wire.Put(event(-1, 0)) },
		func() { wire.Put(event(0, 0)) },
		func() { wire.Get("") },
		func() { wire.Get("\x00\x00" + zeros) },
		func() { wire.Fits(nil, event(0, 0)) },
		func() { wire.Fits(kinds(), event(0, 0)) },
		func() { wire.Size(event(0, 0)) },
	} {
		func() {
			defer func() {
				if got := recover(); got != api.ErrLate {
					t.Errorf("the caller's panic was %v in the end", got)
				}
			}()
			defer call()
			panic(api.ErrLate)
		}()
	}
}
