package arena_test

import (
	"math"
	"slices"
	"strings"
	"testing"

	"jettison/api"
	"jettison/arena"
)

const greatest = 1 << 24

// round: the class of n bytes by the words of chapter 1, written out here so that the arena is held against the document.
func round(n int) (int, bool) {
	for _, c := range []int{16, 32, 64, 128, 256, 512, 1024} {
		if n >= 0 && n <= c {
			return c, true
		}
	}
	return 0, false
}

func bytesOf(n int) string { return strings.Repeat("x", n) }

func made(t *testing.T, capacity int) *arena.Arena {
	t.Helper()
	a := arena.New(capacity)
	if a == nil {
		t.Fatalf("New(%d) = nil", capacity)
	}
	return a
}

func allocated(t *testing.T, a *arena.Arena, s string, slot, gen uint32) arena.Handle {
	t.Helper()
	h, e := a.Alloc(s)
	if e != api.OK || h != (arena.Handle{Slot: slot, Gen: gen}) {
		t.Fatalf("Alloc of %d bytes = %v, %d; want {%d %d}, 0", len(s), h, e, slot, gen)
	}
	return h
}

func refusedAlloc(t *testing.T, a *arena.Arena, s string, want api.Errno) {
	t.Helper()
	charged, limit, live := a.Charged(), a.Limit(), a.Live()
	if h, e := a.Alloc(s); e != want || h != (arena.Handle{}) {
		t.Errorf("Alloc of %d bytes = %v, %d; want {0 0}, %d", len(s), h, e, want)
	}
	checkCounts(t, a, charged, limit, live)
}

func checkCounts(t *testing.T, a *arena.Arena, charged, limit, live int) {
	t.Helper()
	if a.Charged() != charged || a.Limit() != limit || a.Live() != live {
		t.Errorf("Charged, Limit, Live = %d, %d, %d; want %d, %d, %d", a.Charged(), a.Limit(), a.Live(), charged, limit, live)
	}
}

func checkGet(t *testing.T, a *arena.Arena, h arena.Handle, want string, ok bool) {
	t.Helper()
	if got, gotOK := a.Get(h); got != want || gotOK != ok {
		t.Errorf("Get(%v) = %q, %t; want %q, %t", h, got, gotOK, want, ok)
	}
}

// checkNone: h is of no block, and what is asked of it turns nothing.
func checkNone(t *testing.T, a *arena.Arena, h arena.Handle) {
	t.Helper()
	charged, limit, live := a.Charged(), a.Limit(), a.Live()
	checkGet(t, a, h, "", false)
	if a.Put(h, "") || a.Put(h, "z") || a.Put(h, bytesOf(2000)) {
		t.Errorf("Put(%v) tells true", h)
	}
	if a.Free(h) {
		t.Errorf("Free(%v) tells true", h)
	}
	checkCounts(t, a, charged, limit, live)
}

func checkFits(t *testing.T, a *arena.Arena, want bool, l ...int) {
	t.Helper()
	if got := a.Fits(l...); got != want {
		t.Errorf("Fits of %d sizes %v = %t; want %t (charged %d of %d)", len(l), l[:min(len(l), 8)], got, want, a.Charged(), a.Limit())
	}
}

func checkSetLimit(t *testing.T, a *arena.Arena, n int, want api.Errno) {
	t.Helper()
	limit := a.Limit()
	if want == api.OK {
		limit = n
	}
	charged, live := a.Charged(), a.Live()
	if got := a.SetLimit(n); got != want {
		t.Errorf("SetLimit(%d) = %d; want %d", n, got, want)
	}
	checkCounts(t, a, charged, limit, live)
}

// P3.1: the least and the greatest capacity, and those behind them.
func TestNew(t *testing.T) {
	for _, n := range []int{0, 1, 15, 16, 17, 100, 4096, greatest - 1, greatest} {
		checkCounts(t, made(t, n), 0, n, 0)
	}
	for _, n := range []int{-1, -2, -16, math.MinInt32, math.MinInt + 1, math.MinInt,
		greatest + 1, greatest * 2, math.MaxInt32, math.MaxInt32 + 1, 1 << 32, 1<<32 + 16, math.MaxInt - 1, math.MaxInt} {
		if arena.New(n) != nil {
			t.Errorf("New(%d) is no nil", n)
		}
	}
}

// P3.1: slots from 0 on, of generation 1 at first, up to the last one.
func TestSlotsAtFirst(t *testing.T) {
	a := made(t, greatest)
	for slot := range uint32(api.MaxSlots) {
		checkNone(t, a, arena.Handle{Slot: slot, Gen: 1})
		allocated(t, a, "b", slot, 1)
	}
	checkCounts(t, a, 16*api.MaxSlots, greatest, api.MaxSlots)
}

// P3.1: charged is the sum of what each block that lives is rounded to.
func TestCharged(t *testing.T) {
	a := made(t, greatest)
	want := 0
	var l []arena.Handle
	for n := range api.MaxBlock + 1 {
		c, _ := round(n)
		want += c
		l = append(l, allocated(t, a, bytesOf(n), uint32(n), 1))
		checkCounts(t, a, want, greatest, n+1)
	}
	for n, h := range l {
		checkGet(t, a, h, bytesOf(n), true)
		c, _ := round(n)
		want -= c
		if !a.Free(h) {
			t.Fatalf("Free(%v) tells false", h)
		}
		checkCounts(t, a, want, greatest, api.MaxBlock-n)
	}
}

// P3.2: the chapter's example.
func TestExample(t *testing.T) {
	a := made(t, 16)
	h := allocated(t, a, "a", 0, 1)
	refusedAlloc(t, a, "b", api.ErrBudget)
	checkGet(t, a, h, "a", true)
}

// P3.2: a block that just has room, and one that has not, at every size.
func TestAllocAtTheLimit(t *testing.T) {
	for n := range api.MaxBlock + 1 {
		c, _ := round(n)
		allocated(t, made(t, c), bytesOf(n), 0, 1)
		refusedAlloc(t, made(t, c-1), bytesOf(n), api.ErrBudget)
		a := made(t, c+16)
		allocated(t, a, "", 0, 1)
		allocated(t, a, bytesOf(n), 1, 1)
		b := made(t, c+15)
		allocated(t, b, "", 0, 1)
		refusedAlloc(t, b, bytesOf(n), api.ErrBudget)
		checkCounts(t, b, 16, c+15, 1)
	}
	refusedAlloc(t, made(t, 0), "", api.ErrBudget)
	refusedAlloc(t, made(t, 15), "", api.ErrBudget)
	allocated(t, made(t, 16), "", 0, 1)
}

// P3.2: more bytes than a block may have, ahead of every other error.
func TestAllocTooGreat(t *testing.T) {
	for _, n := range []int{1025, 1026, 2048, 4096, 1 << 16, 1<<16 + 16} {
		refusedAlloc(t, made(t, greatest), bytesOf(n), api.ErrArg)
		refusedAlloc(t, made(t, 0), bytesOf(n), api.ErrArg)
	}
	a, _ := full(t)
	refusedAlloc(t, a, bytesOf(1025), api.ErrArg)
	checkSetLimit(t, a, a.Charged(), api.OK)
	refusedAlloc(t, a, bytesOf(1025), api.ErrArg)
}

// full: an arena with room, but without a free slot.
func full(t *testing.T) (*arena.Arena, []arena.Handle) {
	t.Helper()
	a := made(t, greatest)
	var l []arena.Handle
	for slot := range uint32(api.MaxSlots) {
		l = append(l, allocated(t, a, "b", slot, 1))
	}
	return a, l
}

// P3.2, P2: so many blocks as there are slots, and one more; no room is told ahead of no slot.
func TestAllocWithoutASlot(t *testing.T) {
	a, l := full(t)
	for _, n := range []int{0, 1, 16, 17, 1024} {
		refusedAlloc(t, a, bytesOf(n), api.ErrFull)
	}
	checkSetLimit(t, a, a.Charged()+16, api.OK)
	refusedAlloc(t, a, bytesOf(16), api.ErrFull)
	refusedAlloc(t, a, bytesOf(17), api.ErrBudget)
	checkSetLimit(t, a, a.Charged(), api.OK)
	refusedAlloc(t, a, "", api.ErrBudget)
	if !a.Free(l[4095]) {
		t.Error("the last slot is not freed")
	}
	allocated(t, a, "c", 4095, 2)
	for _, h := range l[:4095] {
		checkGet(t, a, h, "b", true)
	}
}

// P3.2: the least free slot, whatever order they were freed in, of the next generation.
func TestAllocTakesTheLeastFreeSlot(t *testing.T) {
	a, l := full(t)
	for _, slot := range []int{4095, 77, 64, 2048, 63, 9, 0, 127, 128} {
		if !a.Free(l[slot]) {
			t.Errorf("slot %d is not freed", slot)
		}
	}
	for _, slot := range []uint32{0, 9, 63} {
		allocated(t, a, "c", slot, 2)
	}
	if !a.Free(arena.Handle{Slot: 9, Gen: 2}) {
		t.Error("slot 9 is not freed again")
	}
	allocated(t, a, "d", 9, 3)
	for _, slot := range []uint32{64, 77, 127, 128, 2048, 4095} {
		allocated(t, a, "c", slot, 2)
	}
	refusedAlloc(t, a, "c", api.ErrFull)
}

// P3.2: a freed slot ahead is taken before one that had no block yet, and each slot has its own generation.
func TestFreedSlotsComeFirst(t *testing.T) {
	a := made(t, 1024)
	first := allocated(t, a, "a", 0, 1)
	second := allocated(t, a, "b", 1, 1)
	a.Free(second)
	a.Free(first)
	first = allocated(t, a, "c", 0, 2)
	a.Free(first)
	allocated(t, a, "d", 0, 3)
	allocated(t, a, "e", 1, 2)
	allocated(t, a, "f", 2, 1)
}

// P3.2: a slot that was freed has no block, whichever generation is asked, until it is taken.
func TestFree(t *testing.T) {
	a := made(t, 100)
	h := allocated(t, a, "hello", 0, 1)
	other := allocated(t, a, bytesOf(40), 1, 1)
	if !a.Free(h) {
		t.Error("Free tells false")
	}
	checkCounts(t, a, 64, 100, 1)
	for gen := range uint32(5) {
		checkNone(t, a, arena.Handle{Slot: 0, Gen: gen})
	}
	checkGet(t, a, other, bytesOf(40), true)
	next := allocated(t, a, "", 0, 2)
	checkGet(t, a, next, "", true)
	checkNone(t, a, h)
}

// P3.2, P1, P6: handles that are of no block, to the ends of their numbers.
func TestHandlesOfNoBlock(t *testing.T) {
	numbers := []uint32{0, 1, 2, 3, 63, 64, 4095, 4096, 4097, 1 << 16, 1<<16 + 1, math.MaxInt32, 1 << 31, 1<<31 + 1, math.MaxUint32 - 1, math.MaxUint32}
	a := made(t, 100)
	empty := made(t, 0)
	first := allocated(t, a, "hello", 0, 1)
	second := allocated(t, a, "world", 1, 1)
	gone := allocated(t, a, "gone", 2, 1)
	a.Free(gone)
	for _, slot := range numbers {
		for _, gen := range numbers {
			h := arena.Handle{Slot: slot, Gen: gen}
			checkNone(t, empty, h)
			if h != first && h != second {
				checkNone(t, a, h)
			}
		}
	}
	checkGet(t, a, first, "hello", true)
	checkGet(t, a, second, "world", true)
}

// P3.2: a slot that is none is none too where all slots live.
func TestSlotBehindTheLast(t *testing.T) {
	a, _ := full(t)
	for _, slot := range []uint32{4096, 4097, 8192, 1 << 31, math.MaxUint32} {
		checkNone(t, a, arena.Handle{Slot: slot, Gen: 1})
	}
	checkGet(t, a, arena.Handle{Slot: 4095, Gen: 1}, "b", true)
}

// P3.2: what was put is there, of any bytes, and the blocks beside it are as they were.
func TestGetAndPut(t *testing.T) {
	a := made(t, 1000)
	first := allocated(t, a, "\x00\xff\x80é", 0, 1)
	second := allocated(t, a, "second", 1, 1)
	checkGet(t, a, first, "\x00\xff\x80é", true)
	checkGet(t, a, first, "\x00\xff\x80é", true)
	for _, s := range []string{"", "new", "\xff\x00", bytesOf(16), "z", ""} {
		if !a.Put(first, s) {
			t.Errorf("Put of %q tells false", s)
		}
		checkGet(t, a, first, s, true)
		checkGet(t, a, second, "second", true)
		checkCounts(t, a, 32, 1000, 2)
	}
}

// P3.2: Put asks what the block was allocated with, not what it has now, and turns nothing that is charged.
func TestPutAtTheEndOfABlock(t *testing.T) {
	for n := range api.MaxBlock + 1 {
		c, _ := round(n)
		a := made(t, c)
		h := allocated(t, a, bytesOf(n), 0, 1)
		for _, s := range []string{strings.Repeat("y", c), "", strings.Repeat("z", c)} {
			if !a.Put(h, s) {
				t.Errorf("a block of %d bytes does not take %d", n, len(s))
			}
			for _, more := range []int{c + 1, 2 * c, 3000} {
				if a.Put(h, bytesOf(more)) {
					t.Errorf("a block of %d bytes takes %d", n, more)
				}
			}
			checkGet(t, a, h, s, true)
			checkCounts(t, a, c, c, 1)
		}
		if !a.Free(h) {
			t.Error("Free tells false")
		}
		checkCounts(t, a, 0, c, 0)
	}
}

// P3.2: a slot that is taken again has the room of its new block, not of the one ahead.
func TestRoomOfASlotTakenAgain(t *testing.T) {
	a := made(t, 1024)
	great := allocated(t, a, bytesOf(1000), 0, 1)
	a.Free(great)
	small := allocated(t, a, "s", 0, 2)
	if a.Put(small, bytesOf(17)) || !a.Put(small, bytesOf(16)) || a.Put(great, "g") {
		t.Error("Put asks another block's room")
	}
	checkCounts(t, a, 16, 1024, 1)
	a.Free(small)
	allocated(t, a, bytesOf(1024), 0, 3)
}

// P3.3: a limit at what is charged, below it, at the capacity and above it; and what is allocated behind.
func TestSetLimit(t *testing.T) {
	a := made(t, 100)
	h := allocated(t, a, "hello", 0, 1)
	allocated(t, a, bytesOf(40), 1, 1)
	checkSetLimit(t, a, 79, api.ErrBudget)
	checkSetLimit(t, a, 0, api.ErrBudget)
	checkSetLimit(t, a, 80, api.OK)
	refusedAlloc(t, a, "", api.ErrBudget)
	checkSetLimit(t, a, 101, api.ErrArg)
	checkSetLimit(t, a, 95, api.OK)
	refusedAlloc(t, a, "", api.ErrBudget)
	checkSetLimit(t, a, 100, api.OK)
	allocated(t, a, "", 2, 1)
	checkSetLimit(t, a, 95, api.ErrBudget)
	checkSetLimit(t, a, 96, api.OK)
	a.Free(h)
	checkSetLimit(t, a, 79, api.ErrBudget)
	checkSetLimit(t, a, 80, api.OK)
}

// P3.3: with nothing charged every limit from 0 to the capacity may be, and may be raised again.
func TestSetLimitOfNothing(t *testing.T) {
	for _, capacity := range []int{0, 1, 16, greatest} {
		a := made(t, capacity)
		checkSetLimit(t, a, 0, api.OK)
		refusedAlloc(t, a, "", api.ErrBudget)
		checkSetLimit(t, a, capacity, api.OK)
		checkSetLimit(t, a, capacity+1, api.ErrArg)
		checkSetLimit(t, a, -1, api.ErrArg)
	}
}

// P3.3, P6, P2: no limits, to the ends of an int, whether or not something is charged.
func TestSetLimitRefuses(t *testing.T) {
	a, b := made(t, 64), made(t, 64)
	allocated(t, a, "x", 0, 1)
	for _, n := range []int{-1, -16, math.MinInt32, math.MinInt + 1, math.MinInt, 65, 66, greatest, greatest + 1,
		math.MaxInt32, 1 << 32, 1<<32 + 32, math.MaxInt - 1, math.MaxInt} {
		checkSetLimit(t, a, n, api.ErrArg)
		checkSetLimit(t, b, n, api.ErrArg)
	}
}

// P3.3: how many blocks live, not how many slots were taken ever.
func TestLive(t *testing.T) {
	a := made(t, 1000)
	first, second := allocated(t, a, "", 0, 1), allocated(t, a, "", 1, 1)
	checkCounts(t, a, 32, 1000, 2)
	a.Free(first)
	a.Free(first)
	checkCounts(t, a, 16, 1000, 1)
	a.Free(second)
	checkCounts(t, a, 0, 1000, 0)
	allocated(t, a, "", 0, 2)
	checkCounts(t, a, 16, 1000, 1)
}

// P3.3: just room, and not; each size is rounded by itself; no size at all.
func TestFits(t *testing.T) {
	a := made(t, 100)
	checkFits(t, a, true)
	checkFits(t, a, true, 64)
	checkFits(t, a, false, 65)
	checkFits(t, a, true, 64, 32)
	checkFits(t, a, true, 0, 0, 0, 0, 0, 0)
	checkFits(t, a, false, 0, 0, 0, 0, 0, 0, 0)
	checkFits(t, a, false, 64, 33)
	allocated(t, a, "x", 0, 1)
	checkFits(t, a, true, 64, 16)
	checkFits(t, a, false, 64, 17)
	checkSetLimit(t, a, 32, api.OK)
	checkFits(t, a, true, 16)
	checkFits(t, a, false, 17)
	checkSetLimit(t, a, 31, api.OK)
	checkFits(t, a, false, 0)
	checkSetLimit(t, a, 16, api.OK)
	checkFits(t, a, true)
	checkFits(t, a, true, []int{}...)
	checkFits(t, a, false, 0)
	checkFits(t, made(t, 0), true)
	checkFits(t, made(t, 0), false, 0)
	checkCounts(t, a, 16, 16, 1)
}

// P3.3, P6: sizes that are none, whatever stands beside them, and a sum above 2^31 - 1.
func TestFitsRefuses(t *testing.T) {
	a := made(t, greatest)
	for _, n := range []int{-1, -16, math.MinInt + 1, math.MinInt, 1025, 2048, math.MaxInt32, math.MaxInt - 1, math.MaxInt} {
		checkFits(t, a, false, n)
		checkFits(t, a, false, 1, n)
		checkFits(t, a, false, n, -n)
	}
	checkFits(t, a, true, slices.Repeat([]int{1024}, 1<<14)...)
	checkFits(t, a, false, slices.Repeat([]int{1024}, 1<<14+1)...)
	checkFits(t, a, false, slices.Repeat([]int{1024}, 1<<21-1)...)
	checkFits(t, a, false, slices.Repeat([]int{1024}, 1<<21)...)
	checkFits(t, a, false, slices.Repeat([]int{1024}, 1<<22)...)
}

// P3.3: Fits does not ask for free slots.
func TestFitsWithoutASlot(t *testing.T) {
	a, _ := full(t)
	checkFits(t, a, true, 16)
	checkFits(t, a, true, slices.Repeat([]int{1024}, 1000)...)
	refusedAlloc(t, a, "", api.ErrFull)
	checkSetLimit(t, a, a.Charged(), api.OK)
	checkFits(t, a, true)
	checkFits(t, a, false, 0)
}

// P3: Fits writes neither into its sizes nor behind them.
func TestFitsWritesNothing(t *testing.T) {
	whole := []int{5, 17, 300, 1024, -9, 77}
	kept := slices.Clone(whole)
	a := made(t, 2000)
	a.Fits(whole[:4]...)
	a.Fits(whole...)
	a.Fits(whole[:0]...)
	if !slices.Equal(whole, kept) {
		t.Errorf("Fits wrote: %v, was %v", whole, kept)
	}
}

// P4: two arenas know nothing of one another.
func TestArenasByThemselves(t *testing.T) {
	a, b := made(t, 32), made(t, 64)
	h := allocated(t, a, "a", 0, 1)
	checkNone(t, b, h)
	allocated(t, b, "b", 0, 1)
	a.Free(h)
	allocated(t, a, "c", 0, 2)
	checkSetLimit(t, b, 16, api.OK)
	checkGet(t, b, arena.Handle{Slot: 0, Gen: 1}, "b", true)
	checkCounts(t, a, 16, 32, 1)
	checkCounts(t, b, 16, 16, 1)
}

// P3.4: a handle that was freed is of no block any more, through many generations of its slot.
func TestFreedHandlesStayFreed(t *testing.T) {
	a := made(t, 16)
	var freed []arena.Handle
	for gen := range uint32(300) {
		h := allocated(t, a, "again", 0, gen+1)
		for _, old := range freed {
			checkNone(t, a, old)
		}
		checkGet(t, a, h, "again", true)
		a.Free(h)
		freed = append(freed, h)
		checkNone(t, a, h)
	}
	for gen := uint32(300); gen < 70000; gen++ {
		a.Free(allocated(t, a, "", 0, gen+1))
	}
	allocated(t, a, "", 0, 70001)
	for _, old := range freed {
		checkNone(t, a, old)
	}
}

// model: the arena by the chapter's words alone, without any shortcut.
type model struct {
	capacity, limit int
	live            [api.MaxSlots]bool
	gen             [api.MaxSlots]uint32
	text            [api.MaxSlots]string
	room            [api.MaxSlots]int
}

func (m *model) counts() (charged, live int) {
	for slot, on := range m.live {
		if on {
			charged += m.room[slot]
			live++
		}
	}
	return charged, live
}

func (m *model) alloc(s string) (arena.Handle, api.Errno) {
	room, ok := round(len(s))
	if !ok {
		return arena.Handle{}, api.ErrArg
	}
	if charged, _ := m.counts(); charged+room > m.limit {
		return arena.Handle{}, api.ErrBudget
	}
	slot := slices.Index(m.live[:], false)
	if slot < 0 {
		return arena.Handle{}, api.ErrFull
	}
	m.live[slot], m.text[slot], m.room[slot] = true, s, room
	return arena.Handle{Slot: uint32(slot), Gen: m.gen[slot] + 1}, api.OK
}

func (m *model) has(h arena.Handle) bool {
	return h.Slot < api.MaxSlots && m.live[h.Slot] && m.gen[h.Slot]+1 == h.Gen
}

func (m *model) put(h arena.Handle, s string) bool {
	if !m.has(h) || len(s) > m.room[h.Slot] {
		return false
	}
	m.text[h.Slot] = s
	return true
}

func (m *model) free(h arena.Handle) bool {
	if !m.has(h) {
		return false
	}
	m.live[h.Slot] = false
	m.gen[h.Slot]++
	return true
}

func (m *model) setLimit(n int) api.Errno {
	if n < 0 || n > m.capacity {
		return api.ErrArg
	}
	if charged, _ := m.counts(); charged > n {
		return api.ErrBudget
	}
	m.limit = n
	return api.OK
}

// walk: many calls in a fixed order that looks like none, on an arena and on its model.
type walk struct {
	t       *testing.T
	a       *arena.Arena
	m       *model
	seed    uint64
	handles []arena.Handle
}

// next: a number below n, from a rule that gives the same ones in every run.
func (w *walk) next(n int) int {
	w.seed = w.seed*6364136223846793005 + 1442695040888963407
	return int(w.seed>>33) % n
}

// handle: one that was told once, live or not, or one beside it.
func (w *walk) handle() arena.Handle {
	if len(w.handles) == 0 {
		return arena.Handle{Gen: 1}
	}
	h := w.handles[w.next(len(w.handles))]
	if w.next(8) == 0 {
		h.Gen++
	}
	return h
}

func (w *walk) step(great int) {
	switch w.next(10) {
	case 0, 1, 2, 3:
		s := strings.Repeat(string(rune('a'+w.next(26))), w.next(great))
		h, e := w.a.Alloc(s)
		if want, wantE := w.m.alloc(s); h != want || e != wantE {
			w.t.Fatalf("Alloc of %d bytes = %v, %d; want %v, %d", len(s), h, e, want, wantE)
		}
		if e == api.OK {
			w.handles = append(w.handles, h)
		}
	case 4, 5:
		h, s := w.handle(), bytesOf(w.next(great))
		if got, want := w.a.Put(h, s), w.m.put(h, s); got != want {
			w.t.Fatalf("Put(%v) of %d bytes = %t; want %t", h, len(s), got, want)
		}
	case 6, 7, 8:
		h := w.handle()
		if got, want := w.a.Free(h), w.m.free(h); got != want {
			w.t.Fatalf("Free(%v) = %t; want %t", h, got, want)
		}
	case 9:
		n := w.next(w.m.capacity+20) - 5
		if got, want := w.a.SetLimit(n), w.m.setLimit(n); got != want {
			w.t.Fatalf("SetLimit(%d) = %d; want %d", n, got, want)
		}
	}
}

func (w *walk) check() {
	charged, live := w.m.counts()
	checkCounts(w.t, w.a, charged, w.m.limit, live)
	if w.a.Charged() > w.a.Limit() || w.a.Limit() > w.m.capacity {
		w.t.Fatalf("charged %d, limit %d, capacity %d", w.a.Charged(), w.a.Limit(), w.m.capacity)
	}
	for range 4 {
		h, want := w.handle(), ""
		if w.m.has(h) {
			want = w.m.text[h.Slot]
		}
		checkGet(w.t, w.a, h, want, w.m.has(h))
	}
	for _, n := range []int{0, 16, 17, 64, 1024} {
		c, _ := round(n)
		checkFits(w.t, w.a, charged+c+16 <= w.m.limit, n, 1)
	}
}

// P3.1 to P3.4: after every call the arena is what the chapter's words make of it, and charged is at most the limit.
func TestAgainstTheModel(t *testing.T) {
	for seed, capacity := range []int{0, 16, 100, 1000, 5000, 100000} {
		w := &walk{t: t, a: made(t, capacity), m: &model{capacity: capacity, limit: capacity}, seed: uint64(seed)}
		for i := range 3000 {
			w.step([]int{20, 70, 1100}[i%3])
			w.check()
			if t.Failed() {
				t.Fatalf("capacity %d, call %d", capacity, i)
			}
		}
	}
}
