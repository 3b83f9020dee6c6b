package store_test

import (
	"testing"

	"jettison/api"
	"jettison/arena"
	"jettison/store"
	"jettison/wire"
)

// seq: numbers that look like chance, and are the same each time.
type seq uint64

func (s *seq) below(n int) int {
	*s = *s*6364136223846793005 + 1442695040888963407
	return int(uint64(*s>>33) % uint64(n))
}

func pick[T any](s *seq, l ...T) T {
	return l[s.below(len(l))]
}

// index: one of so many, so that they come again, and at times one at an end of 64 bits.
func (s *seq) index(n int) int {
	return pick(s, s.below(n), s.below(n), s.below(n), -s.below(n), s.below(n)<<32, first+s.below(2), last-s.below(2))
}

// event: mostly one that has a Put.
func (s *seq) event() wire.Event {
	e := wire.Event{Kind: s.below(256), Time: pick(s, int64(s.below(100)), -int64(s.below(100)), first, last)}
	if s.below(12) == 0 {
		e.Kind = pick(s, -1-s.below(300), 256+s.below(300), first, last)
	}
	for range pick(s, s.below(api.MaxFields+1), s.below(api.MaxFields+2), s.below(4)) {
		e.V = append(e.V, pick(s, int64(s.below(1000)), -int64(s.below(1000)), first, last))
	}
	return e
}

// model: what is there, one behind the other as they came, and found by going by them all.
type model []item

// place: at which place index stands; with none how many there are.
func (m model) place(index int) int {
	for i, one := range m {
		if one.index == index {
			return i
		}
	}
	return len(m)
}

// put: by the chapter's words; left is what may still be charged, full whether no slot is free.
func (m *model) put(index int, e wire.Event, left int, full bool) api.Errno {
	switch {
	case e.Kind < 0 || e.Kind > 255 || len(e.V) > api.MaxFields:
		return api.ErrForm
	case m.place(index) < len(*m):
		return api.ErrArg
	case room(e) > left:
		return api.ErrBudget
	case full:
		return api.ErrFull
	}
	*m = append(*m, item{index, e, 1})
	return api.OK
}

func (m model) hold(index int) bool {
	i := m.place(index)
	if i == len(m) {
		return false
	}
	m[i].times++
	return true
}

func (m *model) drop(index int) bool {
	i := m.place(index)
	if i == len(*m) {
		return false
	}
	(*m)[i].times--
	if (*m)[i].times == 0 {
		*m = append((*m)[:i:i], (*m)[i+1:]...)
	}
	return true
}

// agrees: that s is, in what it tells of all and of one index, as the model is.
func (m model) agrees(t *testing.T, s *store.Store, index int) {
	t.Helper()
	if s.Len() != len(m) {
		t.Fatalf("Len() = %d; want %d", s.Len(), len(m))
	}
	if i := m.place(index); i < len(m) {
		gets(t, s, index, m[i].event, true, m[i].times)
	} else {
		gets(t, s, index, wire.Event{}, false, 0)
	}
}

// walk: many calls in a fixed order that looks like none, on some stores in one arena, from which others Alloc too.
type walk struct {
	t      *testing.T
	a      *arena.Arena
	stores []*store.Store
	models []model
	// others has what others allocated, by the handles, and how many bytes that is.
	others map[arena.Handle]string
	seq    seq
	// indexes is how many of them are near 0.
	indexes int
	// counts has how often each thing came: by Errno what Put told, and behind these what Hold and Drop told, and what was let go.
	counts [20]int
}

const (
	heldCount = 12 + iota
	notHeld
	droppedCount
	notDropped
	gone
)

func (w *walk) charged() (charged, live int) {
	for _, m := range w.models {
		for _, one := range m {
			charged += room(one.event)
		}
		live += len(m)
	}
	for _, text := range w.others {
		charged += round(len(text))
	}
	return charged, live + len(w.others)
}

// step: one call of one store, or of another one in the arena.
func (w *walk) step(grows bool) {
	n := w.seq.below(len(w.stores))
	index := w.seq.index(w.indexes)
	if m := w.models[n]; len(m) > 0 && w.seq.below(2) == 0 {
		index = m[w.seq.below(len(m))].index
	}
	switch kind := w.seq.below(20); {
	case kind == 0:
		w.other()
	case kind == 1:
		w.limit()
	case kind < 5:
		w.hold(n, index)
	case kind < 11 && grows, kind < 8:
		index = w.seq.index(w.indexes)
		w.put(n, index)
	default:
		w.drop(n, index)
	}
	w.models[n].agrees(w.t, w.stores[n], index)
	w.models[n].agrees(w.t, w.stores[n], w.seq.index(w.indexes))
	if charged, live := w.charged(); w.a.Charged() != charged || w.a.Live() != live {
		w.t.Fatalf("%d charged, %d blocks; want %d, %d", w.a.Charged(), w.a.Live(), charged, live)
	}
}

func (w *walk) put(n, index int) {
	e := w.seq.event()
	want := w.models[n].put(index, e, w.a.Limit()-w.a.Charged(), w.a.Live() == api.MaxSlots)
	if got := w.stores[n].Put(index, e); got != want {
		w.t.Fatalf("Put(%d, %v) = %d; want %d", index, e, got, want)
	}
	w.counts[want]++
}

func (w *walk) hold(n, index int) {
	want := w.models[n].hold(index)
	if w.stores[n].Hold(index) != want {
		w.t.Fatalf("Hold(%d) = %t", index, !want)
	}
	w.count(want, heldCount, notHeld)
}

func (w *walk) drop(n, index int) {
	there := len(w.models[n])
	want := w.models[n].drop(index)
	if w.stores[n].Drop(index) != want {
		w.t.Fatalf("Drop(%d) = %t", index, !want)
	}
	w.count(want, droppedCount, notDropped)
	w.counts[gone] += there - len(w.models[n])
}

func (w *walk) count(ok bool, yes, no int) {
	if !ok {
		yes = no
	}
	w.counts[yes]++
}

// other: a block that is no store's is allocated, or one is freed; what it had is there until then.
func (w *walk) other() {
	if w.seq.below(2) == 0 || len(w.others) == 0 {
		text := pick(&w.seq, "another's", "", "another's, of more than one class")
		if h, e := w.a.Alloc(text); e == api.OK {
			w.others[h] = text
		}
		return
	}
	// The least handle, so that the order of the map is not asked.
	least := arena.Handle{Slot: api.MaxSlots}
	for h, want := range w.others {
		if got, ok := w.a.Get(h); got != want || !ok {
			w.t.Fatalf("another's block has %q, %t; want %q", got, ok, want)
		}
		if h.Slot < least.Slot {
			least = h
		}
	}
	if !w.a.Free(least) {
		w.t.Fatalf("Free(%v) = false", least)
	}
	delete(w.others, least)
}

// limit: another limit, from what is charged to all that there is.
func (w *walk) limit() {
	w.a.SetLimit(w.a.Charged() + w.seq.below(400))
}

// end: all is dropped; then nothing is charged for any store.
func (w *walk) end() {
	for n, m := range w.models {
		for i := range m {
			one := m[len(m)-1-i]
			gets(w.t, w.stores[n], one.index, one.event, true, one.times)
			for range one.times {
				if !w.stores[n].Drop(one.index) {
					w.t.Fatalf("Drop(%d) = false", one.index)
				}
			}
			none(w.t, w.a, w.stores[n], one.index)
		}
		w.models[n] = nil
		if w.stores[n].Len() != 0 {
			w.t.Fatalf("Len() = %d, with all dropped", w.stores[n].Len())
		}
	}
	if charged, live := w.charged(); w.a.Charged() != charged || w.a.Live() != live {
		w.t.Fatalf("with all dropped %d are charged for %d blocks; want %d, %d", w.a.Charged(), w.a.Live(), charged, live)
	}
}

// P20.1 to P20.3: call by call against the model, in long runs of calls that look like chance, that grow and shrink by turns.
func TestModel(t *testing.T) {
	var counts [20]int
	for run := range 40 {
		w := &walk{t: t, a: arena.New(200 << (run % 8)), others: map[arena.Handle]string{}, seq: seq(run), indexes: 3 << (run % 5)}
		for range 1 + run%3 {
			w.stores = append(w.stores, store.New(w.a))
			w.models = append(w.models, nil)
		}
		for i := range 3000 {
			w.step(i/300%2 == 0)
			if t.Failed() {
				t.Fatalf("run %d, call %d", run, i)
			}
		}
		w.end()
		for i, n := range w.counts {
			counts[i] += n
		}
	}
	for _, i := range []int{int(api.OK), int(api.ErrForm), int(api.ErrArg), int(api.ErrBudget), heldCount, notHeld, droppedCount, notDropped, gone} {
		if counts[i] < 1500 {
			t.Error("chance hit too little:", counts)
		}
	}
}

// P20.1 to P20.3: with all slots taken, and some free again, as often as there is a turn, it goes on as the model does.
func TestModelOfManySlots(t *testing.T) {
	s := seq(20)
	a, many := made(t, greatest)
	want := map[int]item{}
	full, charged := 0, 0
	for range 30000 {
		index := s.below(3 * api.MaxSlots)
		one, ok := want[index]
		if ok && s.below(4) == 0 {
			dropped(t, many, index)
			delete(want, index)
			charged -= room(one.event)
		} else if !ok {
			e := event(s.below(256), int64(index), make([]int64, s.below(9))...)
			told := many.Put(index, e)
			if (told == api.OK) != (len(want) < api.MaxSlots) || told != api.OK && told != api.ErrFull {
				t.Fatalf("Put, with %d there, = %d", len(want), told)
			}
			if told == api.OK {
				want[index] = item{index, e, 1}
				charged += room(e)
			} else {
				full++
			}
		}
		if many.Len() != len(want) || a.Live() != len(want) || a.Charged() != charged {
			t.Fatalf("Len() = %d, %d blocks, %d charged; want %d, %d, %d", many.Len(), a.Live(), a.Charged(), len(want), len(want), charged)
		}
	}
	for index := range 3 * api.MaxSlots {
		one, ok := want[index]
		gets(t, many, index, one.event, ok, one.times)
	}
	if full < 1000 {
		t.Error("chance hit too little:", full)
	}
}
