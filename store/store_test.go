package store_test

import (
	"math"
	"slices"
	"strings"
	"testing"

	"jettison/api"
	"jettison/arena"
	"jettison/store"
	"jettison/wire"
)

const (
	first    = math.MinInt64
	last     = math.MaxInt64
	greatest = 1 << 24
)

// round: the class of n bytes by the words of chapter 1, written out here so that the store is held against the document.
func round(n int) int {
	for _, c := range []int{16, 32, 64, 128, 256, 512} {
		if n <= c {
			return c
		}
	}
	return 1024
}

// room: what an event is charged, by the words of chapters 1 and 5.
func room(e wire.Event) int {
	return round(2 + 8 + 8*len(e.V))
}

// item: an event that is there, with its index, and how often it is counted.
type item struct {
	index int
	event wire.Event
	times int
}

func event(kind int, time int64, v ...int64) wire.Event {
	return wire.Event{Kind: kind, Time: time, V: v}
}

// events: of each number of V that there may be, of kinds and numbers to their ends; no two are the same.
func events() (told []wire.Event) {
	all := []int64{first, 7, -1, last, 0, 258, first + 1, last - 1}
	for n := range api.MaxFields + 1 {
		told = append(told, event(n*255/api.MaxFields, int64(n)-4, all[:n]...))
	}
	return append(told, event(255, first), event(0, last, last, first), event(1, 0, 0, 0, 0))
}

// indexes: below 0, 0, and to both ends of 64 bits, also such as are the same but for the upper half of their bits.
func indexes() []int {
	return []int{0, 1, -1, 2, 7, 4095, 4096, first, first + 1, last, last - 1, math.MinInt32, math.MaxInt32, 1 << 32, 1<<32 + 1, -1 << 32, 1<<62 + 7}
}

// wrong: events that have no Put.
func wrong() (told []wire.Event) {
	for _, kind := range []int{-1, 256, -256, 257, 300, 512, -2, 1 << 32, -1 << 32, first, last} {
		told = append(told, event(kind, 5), event(kind, 5, 1, 2), event(kind, 5, make([]int64, api.MaxFields+1)...))
	}
	for _, n := range []int{api.MaxFields + 1, api.MaxFields + 2, 255, 256, 257, 264, 1 << 16} {
		told = append(told, event(0, 5, make([]int64, n)...), event(255, 5, make([]int64, n)...))
	}
	return told
}

func made(t *testing.T, capacity int) (*arena.Arena, *store.Store) {
	t.Helper()
	a := arena.New(capacity)
	s := store.New(a)
	if a == nil || s == nil {
		t.Fatalf("New in an arena of %d is nil", capacity)
	}
	return a, s
}

// puts: what Put tells, and that nothing is turned where it is not OK.
func puts(t *testing.T, a *arena.Arena, s *store.Store, index int, e wire.Event, want api.Errno) {
	t.Helper()
	charged, live, there, times := a.Charged(), a.Live(), s.Len(), s.Count(index)
	was, ok := s.Get(index)
	if got := s.Put(index, e); got != want {
		t.Fatalf("Put(%d, %d with %d V) = %d; want %d", index, e.Kind, len(e.V), got, want)
	}
	if want == api.OK {
		charged, live, there, times, was, ok = charged+room(e), live+1, there+1, 1, e, true
	}
	if a.Charged() != charged || a.Live() != live || s.Len() != there {
		t.Errorf("behind Put(%d): %d charged, %d blocks, Len() = %d; want %d, %d, %d", index, a.Charged(), a.Live(), s.Len(), charged, live, there)
	}
	gets(t, s, index, was, ok, times)
}

// gets: what Get and Count tell of an index.
func gets(t *testing.T, s *store.Store, index int, want wire.Event, ok bool, times int) {
	t.Helper()
	if got, gotOK := s.Get(index); gotOK != ok || got.Kind != want.Kind || got.Time != want.Time || !slices.Equal(got.V, want.V) {
		t.Errorf("Get(%d) = %v, %t; want %v, %t", index, got, gotOK, want, ok)
	}
	if got := s.Count(index); got != times {
		t.Errorf("Count(%d) = %d; want %d", index, got, times)
	}
}

// none: that an index is not there, in each way of asking, and that asking turns nothing.
func none(t *testing.T, a *arena.Arena, s *store.Store, index int) {
	t.Helper()
	charged, live, there := a.Charged(), a.Live(), s.Len()
	for range 2 {
		gets(t, s, index, wire.Event{}, false, 0)
		if s.Hold(index) {
			t.Errorf("Hold(%d) = true, of what is not there", index)
		}
		gets(t, s, index, wire.Event{}, false, 0)
		if s.Drop(index) {
			t.Errorf("Drop(%d) = true, of what is not there", index)
		}
	}
	if a.Charged() != charged || a.Live() != live || s.Len() != there {
		t.Errorf("asked of %d, %d are charged for %d blocks, Len() = %d; want %d, %d, %d", index, a.Charged(), a.Live(), s.Len(), charged, live, there)
	}
}

// has: that s, alone in a, has just the items; what it has not is asked for by other.
func has(t *testing.T, a *arena.Arena, s *store.Store, l []item, other ...int) {
	t.Helper()
	charged := 0
	for _, one := range l {
		charged += room(one.event)
		gets(t, s, one.index, one.event, true, one.times)
	}
	if s.Len() != len(l) || a.Live() != len(l) || a.Charged() != charged {
		t.Errorf("Len() = %d, %d blocks, %d charged; want %d, %d, %d", s.Len(), a.Live(), a.Charged(), len(l), len(l), charged)
	}
	for _, index := range other {
		none(t, a, s, index)
	}
}

func held(t *testing.T, s *store.Store, index int) {
	t.Helper()
	if !s.Hold(index) {
		t.Fatalf("Hold(%d) = false", index)
	}
}

func dropped(t *testing.T, s *store.Store, index int) {
	t.Helper()
	if !s.Drop(index) {
		t.Fatalf("Drop(%d) = false", index)
	}
}

// P20.1: of nil there is none; a new one has nothing, and nothing is charged for it, even where there is no room.
func TestNew(t *testing.T) {
	if s := store.New(nil); s != nil {
		t.Error("New(nil) is no nil")
	}
	for _, capacity := range []int{0, 1, 16, 1000, greatest} {
		a, s := made(t, capacity)
		has(t, a, s, nil, indexes()...)
		if a.Limit() != capacity {
			t.Errorf("New turns the limit of %d to %d", capacity, a.Limit())
		}
	}
}

// P20.1: a store begins behind what is there already, and leaves it as it is.
func TestNewInAnArenaThatIsUsed(t *testing.T) {
	a := arena.New(100)
	h, _ := a.Alloc("here first")
	bytes, _ := wire.Put(event(1, 2))
	other, _ := a.Alloc(bytes)
	s := store.New(a)
	if s.Len() != 0 || a.Charged() != 32 || a.Live() != 2 {
		t.Errorf("Len() = %d, %d charged", s.Len(), a.Charged())
	}
	for _, index := range []int{0, 1, 2} {
		none(t, a, s, index)
	}
	puts(t, a, s, 0, event(3, 4, 5), api.OK)
	dropped(t, s, 0)
	if got, ok := a.Get(h); got != "here first" || !ok {
		t.Errorf("the block that was there first has %q, %t", got, ok)
	}
	if got, ok := a.Get(other); got != bytes || !ok {
		t.Errorf("the other block has %q, %t", got, ok)
	}
}

// The chapter's example.
func TestExample(t *testing.T) {
	a, s := made(t, 16)
	puts(t, a, s, 0, event(0, 0), api.OK)
	held(t, s, 0)
	dropped(t, s, 0)
	if got := s.Count(0); got != 1 {
		t.Errorf("Count(0) = %d; want 1", got)
	}
}

// P20.1, P6: every index may be, each by itself, with every number of V.
func TestPut(t *testing.T) {
	l := events()
	a, s := made(t, greatest)
	var want []item
	for i, index := range indexes() {
		none(t, a, s, index)
		e := l[i%len(l)]
		puts(t, a, s, index, e, api.OK)
		want = append(want, item{index, e, 1})
		has(t, a, s, want, 3, -2, 1<<33, last-2, first+2)
	}
}

// P20.1, P20.2: each event is told as it was put, and charged by Round of its bytes.
func TestEvents(t *testing.T) {
	for _, e := range events() {
		for _, index := range []int{first, -1, 0, 1, last} {
			a, s := made(t, 200)
			puts(t, a, s, index, e, api.OK)
			has(t, a, s, []item{{index, e, 1}}, 5)
		}
	}
	for n, want := range []int{16, 32, 32, 64, 64, 64, 64, 128, 128} {
		a, s := made(t, greatest)
		puts(t, a, s, 1, event(255, last, make([]int64, n)...), api.OK)
		if a.Charged() != want {
			t.Errorf("an event of %d V is charged %d; want %d", n, a.Charged(), want)
		}
	}
}

// P20.1: the same event under other indexes is there as often, each with a block.
func TestPutTheSameEvent(t *testing.T) {
	a, s := made(t, 1000)
	e := event(3, 4, 5, 6)
	var want []item
	for index := range 5 {
		puts(t, a, s, index, e, api.OK)
		want = append(want, item{index, e, 1})
	}
	has(t, a, s, want, 5)
	dropped(t, s, 2)
	has(t, a, s, append(want[:2:2], want[3:]...), 2)
}

// P20.1: the block is of the bytes of Put, no others, in the least free slot.
func TestBlock(t *testing.T) {
	for _, e := range events() {
		a, s := made(t, 1000)
		puts(t, a, s, 9, e, api.OK)
		want, _ := wire.Put(e)
		if got, ok := a.Get(arena.Handle{Slot: 0, Gen: 1}); got != want || !ok {
			t.Errorf("the block of %v has %x, %t; want %x", e, got, ok, want)
		}
	}
}

// P20.1, P2: what has no Put is refused, ahead of all else, and turns nothing.
func TestPutOfNoEvent(t *testing.T) {
	for _, e := range wrong() {
		a, s := made(t, greatest)
		for _, index := range []int{first, -1, 0, 1, last} {
			puts(t, a, s, index, e, api.ErrForm)
			none(t, a, s, index)
		}
		puts(t, a, s, 1, event(9, 9, 9), api.OK)
		held(t, s, 1)
		puts(t, a, s, 1, e, api.ErrForm)
		puts(t, a, s, 2, e, api.ErrForm)
		has(t, a, s, []item{{1, event(9, 9, 9), 2}}, 2)
		a, s = made(t, 0)
		puts(t, a, s, 1, e, api.ErrForm)
		has(t, a, s, nil, 1)
	}
}

// P20.1: of an index that is there nothing is turned by a Put, whatever the event is.
func TestPutAgain(t *testing.T) {
	for _, index := range indexes() {
		a, s := made(t, 1000)
		puts(t, a, s, index, event(1, 2, 3), api.OK)
		puts(t, a, s, 77, event(4, 5), api.OK)
		for _, e := range events() {
			puts(t, a, s, index, e, api.ErrArg)
			has(t, a, s, []item{{index, event(1, 2, 3), 1}, {77, event(4, 5), 1}}, 78)
		}
		puts(t, a, s, index, event(1, 2, 3), api.ErrArg)
		held(t, s, index)
		puts(t, a, s, index, event(1, 2, 3), api.ErrArg)
		has(t, a, s, []item{{index, event(1, 2, 3), 2}, {77, event(4, 5), 1}}, 78)
	}
}

// P20.1: an event that just fits, and one for which a byte is missing, by Round; a smaller one may still fit.
func TestRoom(t *testing.T) {
	for _, e := range events() {
		for _, other := range []int{0, 16, 96} {
			a, s := made(t, other+room(e))
			fill(t, a, other)
			puts(t, a, s, 0, e, api.OK)
			if a.Charged() != a.Limit() {
				t.Errorf("%d of %d are charged", a.Charged(), a.Limit())
			}
			puts(t, a, s, 1, event(0, 0), api.ErrBudget)
			a, s = made(t, other+room(e)-1)
			fill(t, a, other)
			puts(t, a, s, 0, e, api.ErrBudget)
			none(t, a, s, 0)
			if room(e) > 16 {
				puts(t, a, s, 0, event(0, 0), api.OK)
			}
		}
	}
	a, s := made(t, 0)
	for _, e := range events() {
		puts(t, a, s, 0, e, api.ErrBudget)
	}
	has(t, a, s, nil, 0)
}

// fill: so many bytes, by 16, that are another's.
func fill(t *testing.T, a *arena.Arena, n int) {
	t.Helper()
	for range n / 16 {
		if _, e := a.Alloc("another's"); e != api.OK {
			t.Fatalf("Alloc = %d", e)
		}
	}
}

// P20.1: a limit that was set lower counts, and one that was set higher again.
func TestLimit(t *testing.T) {
	a, s := made(t, 200)
	puts(t, a, s, 0, event(1, 2, 3), api.OK)
	for limit := 32; limit < 120; limit++ {
		if e := a.SetLimit(limit); e != api.OK {
			t.Fatalf("SetLimit(%d) = %d", limit, e)
		}
		want := api.ErrBudget
		if limit >= 32+64 {
			want = api.OK
		}
		puts(t, a, s, 1, event(2, 3, 4, 5, 6), want)
		puts(t, a, s, 0, event(2, 3, 4, 5, 6), api.ErrArg)
		if s.Drop(1) != (want == api.OK) {
			t.Errorf("Drop(1), of what Put told %d", want)
		}
		has(t, a, s, []item{{0, event(1, 2, 3), 1}}, 1)
	}
	// What is put is there, and may be dropped, though nothing else would fit.
	a.SetLimit(32)
	held(t, s, 0)
	dropped(t, s, 0)
	dropped(t, s, 0)
	has(t, a, s, nil, 0)
}

// P20.1: with all slots taken nothing fits, whosever they are; one that is free again is enough.
func TestSlots(t *testing.T) {
	a, s := made(t, greatest)
	other, _ := a.Alloc("another's")
	for index := range api.MaxSlots - 1 {
		if e := s.Put(index, event(index%256, int64(index))); e != api.OK {
			t.Fatalf("Put(%d) = %d", index, e)
		}
	}
	const more = api.MaxSlots
	puts(t, a, s, more, event(1, 1), api.ErrFull)
	puts(t, a, s, more, event(1, 1, 1, 1, 1, 1, 1, 1, 1, 1), api.ErrFull)
	puts(t, a, s, 5, event(1, 1), api.ErrArg)
	puts(t, a, s, 5, event(256, 1), api.ErrForm)
	a.SetLimit(a.Charged() + 16)
	puts(t, a, s, more, event(1, 1), api.ErrFull)
	puts(t, a, s, more, event(1, 1, 1), api.ErrBudget)
	for index := range api.MaxSlots - 1 {
		gets(t, s, index, event(index%256, int64(index)), true, 1)
	}
	held(t, s, 77)
	dropped(t, s, 77)
	puts(t, a, s, more, event(1, 1), api.ErrFull)
	dropped(t, s, 77)
	puts(t, a, s, more, event(1, 1), api.OK)
	puts(t, a, s, 77, event(1, 1), api.ErrFull)
	a.Free(other)
	puts(t, a, s, 77, event(1, 1), api.OK)
	if s.Len() != api.MaxSlots {
		t.Errorf("Len() = %d; want %d", s.Len(), api.MaxSlots)
	}
}

// P20.1, P2: of several errors the one that is named first; there is no room for any of these.
func TestFirstError(t *testing.T) {
	a, s := made(t, 16)
	puts(t, a, s, 3, event(0, 0), api.OK)
	puts(t, a, s, 3, event(-1, 0), api.ErrForm)
	puts(t, a, s, 3, event(0, 0, make([]int64, 9)...), api.ErrForm)
	puts(t, a, s, 4, event(256, 0), api.ErrForm)
	puts(t, a, s, 4, event(0, 0, make([]int64, 9)...), api.ErrForm)
	puts(t, a, s, 3, event(0, 0), api.ErrArg)
	puts(t, a, s, 4, event(0, 0), api.ErrBudget)
	has(t, a, s, []item{{3, event(0, 0), 1}}, 4)
}

// P20.2, P20.3: one that is held several times is there until it is dropped as often as it was put and held.
func TestHoldAndDrop(t *testing.T) {
	for _, index := range indexes() {
		for _, e := range events() {
			a, s := made(t, 500)
			puts(t, a, s, 77, event(4, 5), api.OK)
			for often := range 5 {
				puts(t, a, s, index, e, api.OK)
				for n := range often {
					held(t, s, index)
					has(t, a, s, []item{{index, e, n + 2}, {77, event(4, 5), 1}}, 78)
				}
				for n := range often {
					dropped(t, s, index)
					has(t, a, s, []item{{index, e, often - n}, {77, event(4, 5), 1}}, 78)
				}
				dropped(t, s, index)
				has(t, a, s, []item{{77, event(4, 5), 1}}, index)
			}
		}
	}
}

// P20.2: held and dropped by turns, it is counted as the sum says.
func TestByTurns(t *testing.T) {
	a, s := made(t, 16)
	e := event(7, 8)
	puts(t, a, s, -5, e, api.OK)
	times := 1
	for _, step := range []int{1, -1, 1, 1, -1, -1, 1, 1, 1, -1, 1, -1, -1, -1} {
		if step > 0 {
			held(t, s, -5)
		} else {
			dropped(t, s, -5)
		}
		times += step
		has(t, a, s, []item{{-5, e, times}}, 5)
	}
	dropped(t, s, -5)
	has(t, a, s, nil, -5)
}

// P20.2, P20.3: what is counted very often is there until the last one.
func TestHoldOften(t *testing.T) {
	a, s := made(t, 16)
	const often = 100000
	puts(t, a, s, 1, event(7, 8), api.OK)
	for range often {
		held(t, s, 1)
	}
	gets(t, s, 1, event(7, 8), true, often+1)
	for range often {
		dropped(t, s, 1)
	}
	has(t, a, s, []item{{1, event(7, 8), 1}}, 2)
	dropped(t, s, 1)
	has(t, a, s, nil, 1)
}

// P20.2: what is held, dropped or asked of that is not there turns nothing: what never was, what is no more, what was refused.
func TestNotThere(t *testing.T) {
	a, s := made(t, 96)
	l := []item{{0, event(1, 2, 3), 2}, {5, event(4, 5), 1}, {last, event(6, 7), 1}}
	for _, one := range l {
		puts(t, a, s, one.index, one.event, api.OK)
	}
	held(t, s, 0)
	has(t, a, s, l, 1, -1, 4, 6, first, last-1, 1<<32, 5-1<<32, 5+1<<32)
	puts(t, a, s, 6, event(8, 9, 1), api.OK)
	dropped(t, s, 6)
	has(t, a, s, l, 6)
	puts(t, a, s, 7, event(8, 9, 1, 2, 3), api.ErrBudget)
	puts(t, a, s, 8, event(-8, 9), api.ErrForm)
	has(t, a, s, l, 6, 7, 8)
}

// P20.2: an index that is there no more may be put again, with another event, counted 1 again.
func TestIndexAgain(t *testing.T) {
	for _, index := range []int{first, -1, 0, 1, last} {
		a, s := made(t, 200)
		for _, e := range events() {
			puts(t, a, s, index, e, api.OK)
			held(t, s, index)
			puts(t, a, s, index, event(9, 9, 9), api.ErrArg)
			dropped(t, s, index)
			puts(t, a, s, index, event(9, 9, 9), api.ErrArg)
			has(t, a, s, []item{{index, e, 1}}, 5)
			dropped(t, s, index)
			has(t, a, s, nil, index)
		}
	}
}

// P20.2: what was refused for want of room is put when there is some again.
func TestRoomAgain(t *testing.T) {
	a, s := made(t, 32)
	puts(t, a, s, 1, event(1, 1), api.OK)
	puts(t, a, s, 2, event(2, 2), api.OK)
	for index := 3; index < 300; index++ {
		e := event(index%256, int64(index))
		puts(t, a, s, index, e, api.ErrBudget)
		held(t, s, index-1)
		dropped(t, s, index-2)
		puts(t, a, s, index, e, api.OK)
		dropped(t, s, index-1)
		puts(t, a, s, index-2, e, api.ErrBudget)
	}
	has(t, a, s, []item{{298, event(298%256, 298), 1}, {299, event(299%256, 299), 1}}, 1, 2, 297)
}

// P20.2: the block of one that is there no more may be another's, which the store leaves alone.
func TestBlockOfAnother(t *testing.T) {
	a, s := made(t, 64)
	puts(t, a, s, 1, event(1, 1), api.OK)
	dropped(t, s, 1)
	bytes, _ := wire.Put(event(9, 9))
	h, e := a.Alloc(bytes)
	if e != api.OK || h.Slot != 0 {
		t.Fatalf("Alloc = %v, %d", h, e)
	}
	none(t, a, s, 1)
	puts(t, a, s, 1, event(2, 2), api.OK)
	held(t, s, 1)
	dropped(t, s, 1)
	dropped(t, s, 1)
	none(t, a, s, 1)
	if got, ok := a.Get(h); got != bytes || !ok || a.Charged() != 16 {
		t.Errorf("the other's block has %q, %t, %d charged", got, ok, a.Charged())
	}
}

// P20.2: an event is told as its block has it, also where the block was put by another.
func TestGetOfTheBlock(t *testing.T) {
	a, s := made(t, 64)
	puts(t, a, s, 1, event(1, 1, 7), api.OK)
	h := arena.Handle{Slot: 0, Gen: 1}
	for _, e := range []wire.Event{event(255, -9), event(0, 4, 5, 6), event(1, 1, 7)} {
		bytes, _ := wire.Put(e)
		if a.Put(h, bytes) != (len(bytes) <= 32) {
			t.Fatalf("Put of %d bytes", len(bytes))
		}
		gets(t, s, 1, e, true, 1)
	}
	a.Put(h, "no event")
	gets(t, s, 1, wire.Event{}, false, 1)
	a.Free(h)
	gets(t, s, 1, wire.Event{}, false, 1)
	// The slot is another's by now: a block of the generation behind.
	next, _ := a.Alloc("another's")
	gets(t, s, 1, wire.Event{}, false, 1)
	held(t, s, 1)
	dropped(t, s, 1)
	dropped(t, s, 1)
	none(t, a, s, 1)
	if got, ok := a.Get(next); next.Slot != 0 || got != "another's" || !ok {
		t.Errorf("%v has %q, %t", next, got, ok)
	}
}

// P20.1, P20.2: two stores in one arena have the same room, and nothing else in common.
func TestTwoStores(t *testing.T) {
	a, s := made(t, 80)
	other := store.New(a)
	puts(t, a, s, 1, event(1, 1), api.OK)
	none(t, a, other, 1)
	puts(t, a, other, 1, event(2, 2, 2), api.OK)
	puts(t, a, other, 2, event(3, 3), api.OK)
	none(t, a, s, 2)
	held(t, s, 1)
	gets(t, other, 1, event(2, 2, 2), true, 1)
	gets(t, s, 1, event(1, 1), true, 2)
	puts(t, a, s, 2, event(4, 4, 4), api.ErrBudget)
	puts(t, a, s, 2, event(4, 4), api.OK)
	puts(t, a, other, 3, event(5, 5), api.ErrBudget)
	dropped(t, other, 1)
	none(t, a, other, 1)
	gets(t, s, 1, event(1, 1), true, 2)
	if s.Len() != 2 || other.Len() != 1 || a.Charged() != 48 || a.Live() != 3 {
		t.Errorf("Len() = %d, %d, %d charged, %d blocks", s.Len(), other.Len(), a.Charged(), a.Live())
	}
	puts(t, a, s, 3, event(6, 6, 6), api.OK)
	puts(t, a, other, 1, event(2, 2), api.ErrBudget)
	for _, index := range []int{1, 1, 2, 3} {
		dropped(t, s, index)
	}
	gets(t, other, 2, event(3, 3), true, 1)
	has(t, a, other, []item{{2, event(3, 3), 1}}, 1, 3)
}

// P20.1: two arenas know nothing of one another, nor do their stores.
func TestTwoArenas(t *testing.T) {
	a, s := made(t, 16)
	b, other := made(t, 32)
	puts(t, a, s, 1, event(1, 1), api.OK)
	puts(t, b, other, 1, event(2, 2, 2), api.OK)
	puts(t, a, s, 2, event(3, 3), api.ErrBudget)
	held(t, other, 1)
	dropped(t, s, 1)
	has(t, a, s, nil, 1)
	has(t, b, other, []item{{1, event(2, 2, 2), 2}}, 2)
}

// P3: an event that was put is the caller's, who may write into it; what stands behind its V is left as it was.
func TestPutKeepsNothing(t *testing.T) {
	a, s := made(t, 1000)
	whole := []int64{1, 2, 3, 4, 5}
	for n := range 5 {
		e := wire.Event{Kind: n, Time: 8, V: whole[:n]}
		if got := s.Put(n, e); got != api.OK {
			t.Fatalf("Put = %d", got)
		}
		if !slices.Equal(whole, []int64{1, 2, 3, 4, 5}) || e.Kind != n || e.Time != 8 || len(e.V) != n {
			t.Errorf("Put wrote: %v, %v", whole, e)
		}
	}
	for i := range whole {
		whole[i] = -7
	}
	for n := range 5 {
		gets(t, s, n, event(n, 8, []int64{1, 2, 3, 4, 5}[:n]...), true, 1)
	}
	if a.Live() != 5 {
		t.Errorf("%d blocks", a.Live())
	}
}

// P3: what Get tells is new memory, spare room too.
func TestGetIsNew(t *testing.T) {
	_, s := made(t, 1000)
	for n, e := range events() {
		s.Put(n, e)
		one, _ := s.Get(n)
		two, _ := s.Get(n)
		spoil(one)
		gets(t, s, n, e, true, 1)
		if !wire.Same(two, e) {
			t.Errorf("what was told of %d ahead is turned to %v", n, two)
		}
		spoil(two)
		three, _ := s.Get(n)
		_ = append(three.V, 99, 98)
		four, _ := s.Get(n)
		_ = append(four.V, 97, 96)
		for i, v := range three.V[:cap(three.V)] {
			if i < len(e.V) && v != e.V[i] || i >= len(e.V) && v == 97 {
				t.Errorf("two answers share memory: %v", three.V[:cap(three.V)])
			}
		}
		gets(t, s, n, e, true, 1)
	}
}

// spoil: writes into all that an event has.
func spoil(e wire.Event) {
	for i := range e.V[:cap(e.V)] {
		e.V[:cap(e.V)][i] = -77
	}
}

// P3: what was got may be put, and then written into; the two have each its own.
func TestPutWhatWasGot(t *testing.T) {
	_, s := made(t, 1000)
	e := event(1, 2, 3, 4, 5)
	s.Put(1, e)
	got, _ := s.Get(1)
	s.Put(2, got)
	spoil(got)
	spoil(e)
	gets(t, s, 1, event(1, 2, 3, 4, 5), true, 1)
	gets(t, s, 2, event(1, 2, 3, 4, 5), true, 1)
}

// P4: what is told hangs on what is there, not on the order in which it came there.
func TestWhateverTheOrder(t *testing.T) {
	l := indexes()
	told := func(l []int) string {
		a, s := made(t, 10000)
		for _, index := range l {
			puts(t, a, s, index, event(index&0xff, int64(index)), api.OK)
			if index&1 == 0 {
				held(t, s, index)
			}
		}
		var b strings.Builder
		for _, index := range indexes() {
			e, _ := s.Get(index)
			bytes, _ := wire.Put(e)
			b.WriteString(bytes)
			b.WriteByte(byte(s.Count(index)))
		}
		return b.String()
	}
	want := told(l)
	slices.Reverse(l)
	if told(l) != want {
		t.Error("put backwards, it tells something else")
	}
	slices.Sort(l)
	if told(l) != want {
		t.Error("put in the order of the indexes, it tells something else")
	}
}
