package engine_test

import (
	"fmt"
	"slices"
	"testing"

	"jettison/api"
	"jettison/engine"
	"jettison/schema"
	"jettison/spans"
)

// P21.5: of candidates and runs that have come as far the one that came first is shed.
func TestAdmitSameScore(t *testing.T) {
	g := within(t, 32+2*48, "A a ; B b ; C c WITHIN 50")
	pushes(t, g, event(A, 0), "")
	has(t, g, 32, 16, 32)
	var state spans.Spans
	for n := 1; n < 7; n++ {
		pushes(t, g, event(A, int64(n)), "")
		has(t, g, 32, 16, 16, 32, 32)
		if n > 1 {
			state = state.Add(int64(n - 2))
		}
		reports(t, g, 1, engine.Report{State: state, Shed: n - 1, Runs: 2, Exact: n == 1})
	}
	// Those of 5 and 6 are left.
	ticks(t, g, 55)
	has(t, g, 32, 16, 16, 32, 32)
	ticks(t, g, 56)
	has(t, g, 32, 16, 32)
}

// P21.5: a candidate that is behind the Least run is shed; it has come less far.
func TestAdmitBehind(t *testing.T) {
	g := within(t, 32+16+2*32, "A a ; B b ; C c WITHIN 50")
	pushes(t, g, event(A, 1), "")
	pushes(t, g, event(B, 2), "")
	has(t, g, 32, 16, 32, 32)
	reports(t, g, 1, ledger([][2]int64{{1, 1}}, nil, 1, 1, false))
	pushes(t, g, event(A, 3), "")
	has(t, g, 32, 16, 32, 32)
	reports(t, g, 1, ledger([][2]int64{{1, 1}, {3, 3}}, nil, 2, 1, false))
	pushes(t, g, event(C, 4), "1[0 1 3]")
}

// P21.5: a candidate that has come further than the Least run has its room, and what it comes from is shed as any other.
func TestAdmitBefore(t *testing.T) {
	g := within(t, 64+3*16+3*32, "A a ; B b ; C c WITHIN 50", "C a ; C b{2,2} ; D c WITHIN 50")
	pushes(t, g, event(C, 1), "")
	pushes(t, g, event(A, 2), "")
	// Run 1 has come to 250, run 2 to 333, and what comes to 666.
	has(t, g, 32, 32, 16, 16, 64, 32)
	pushes(t, g, event(B, 3), "")
	has(t, g, 32, 32, 16, 16, 32, 32)
	reports(t, g, 1, ledger(nil, nil, 0, 2, true))
	reports(t, g, 2, ledger([][2]int64{{1, 1}}, nil, 1, 0, false))
	pushes(t, g, event(C, 4), "1[1 2 3]")
}

// P21.5: with no room even when no run is left the candidate is shed, and none is left.
func TestAdmitNoRoom(t *testing.T) {
	for _, room := range []int{0, 15, 16, 31, 32, 47} {
		g := within(t, 32+room, "A a ; B b WITHIN 50")
		pushes(t, g, event(A, 1), "")
		has(t, g, 32)
		reports(t, g, 1, ledger([][2]int64{{1, 1}}, nil, 1, 0, false))
		pushes(t, g, event(B, 2), "")
		if g.Next() != 2 {
			t.Error(g.Next())
		}
	}
	g := within(t, 32+48, "A a ; B b WITHIN 50")
	pushes(t, g, event(A, 1), "")
	pushes(t, g, event(B, 2), "1[0 1]")
	// A run that is there is shed for what has no room then either: nothing says ahead that it will not be enough.
	g = within(t, 32+32, "D a ; (E b ; D c | D d) WITHIN 50")
	pushes(t, g, event(D, 1), "")
	has(t, g, 64)
	g = within(t, 64+64, "D a ; (E b ; D c | D d) WITHIN 50")
	pushes(t, g, event(D, 1), "")
	has(t, g, 64, 16, 16, 16)
	pushes(t, g, event(E, 2), "")
	has(t, g, 64)
	reports(t, g, 1, ledger([][2]int64{{1, 1}}, nil, 3, 0, false))
}

// P21.5: a candidate that is shed holds nothing any more.
func TestAdmitShedHolds(t *testing.T) {
	g := within(t, 1000, "A a ; B b ; C c ; C d WITHIN 50", "D a ; D b ; E c WITHIN 50")
	pushes(t, g, event(D, 1), "")
	pushes(t, g, event(D, 2), "")
	// Of query 2 just the run at 666 stays, and the run of query 1 is at 250.
	does(t, "SetBudget(112)", g.SetBudget(112))
	does(t, "SetBudget(160)", g.SetBudget(160))
	pushes(t, g, event(A, 3), "")
	has(t, g, 32, 32, 16, 16, 16, 16, 32)
	// What comes to 500 sheds the run that it comes from, and then is behind the one at 666.
	pushes(t, g, event(B, 4), "")
	has(t, g, 32, 32, 16, 16, 16)
	reports(t, g, 1, ledger([][2]int64{{3, 3}}, nil, 2, 0, false))
	pushes(t, g, event(E, 5), "2[0 1 4]")
}

// P21.5: an event that is there needs no more room; one that was, and was shed, does.
func TestAdmitEventThere(t *testing.T) {
	for _, c := range []struct {
		query string
		room  int
		sizes []int
		shed  int
	}{
		{"A a{1,3} ; C c WITHIN 9", 80, []int{32, 16, 32}, 2}, {"A a{1,3} ; C c WITHIN 9", 95, []int{32, 16, 32}, 2}, {"A a{1,3} ; C c WITHIN 9", 96, []int{32, 16, 16, 32}, 1}, {"A a{1,3} ; C c WITHIN 9", 112, []int{32, 16, 16, 16, 32}, 0},
		// The other way round each candidate sheds the one ahead, and with it the event.
		{"(A a{3,3}|A a{2,2}|A a);C c WITHIN 9", 112, []int{64, 16, 32}, 2}, {"(A a{3,3}|A a{2,2}|A a);C c WITHIN 9", 128, []int{64, 16, 16, 32}, 1}, {"(A a{3,3}|A a{2,2}|A a);C c WITHIN 9", 144, []int{64, 16, 16, 16, 32}, 0},
	} {
		g := within(t, c.room, c.query)
		pushes(t, g, event(A, 1), "")
		has(t, g, c.sizes...)
		want := ledger(nil, nil, c.shed, 3-c.shed, c.shed == 0)
		if c.shed > 0 {
			want.State = spans.Spans{}.Add(1)
		}
		reports(t, g, 1, want)
		// The path that has come furthest is left.
		pushes(t, g, event(C, 2), "1[0 1]")
	}
}

// P21.5, P21.3: an event is there until the last run that holds it is gone, of whatever query that is.
func TestEventHeld(t *testing.T) {
	g := within(t, 1000, "A a ; B b ; C c WITHIN 5", "A a ; !D g ; B b WITHIN 50", "A a ; B b WITHIN 7")
	pushes(t, g, event(A, 0), "")
	pushes(t, g, event(B, 1), "2[0 1]3[0 1]")
	has(t, g, 32, 32, 32, 16, 16, 16, 16, 32, 32)
	ticks(t, g, 6)
	has(t, g, 32, 32, 32, 16, 16, 32)
	does(t, "Unregister(3)", g.Unregister(3))
	has(t, g, 32, 32, 16, 32)
	pushes(t, g, event(D, 7), "")
	has(t, g, 32, 32)
}

// P21.6: what a SetBudget sheds, and which it refuses.
func TestSetBudget(t *testing.T) {
	queries := []string{"D a ; D b ; A c WITHIN 50", "D a ; A c WITHIN 50"}
	for _, c := range []struct {
		n, charged, shed1, shed2 int
		want                     api.Errno
	}{
		{-1, 176, 0, 0, api.ErrArg}, {first, 176, 0, 0, api.ErrArg}, {1001, 176, 0, 0, api.ErrArg}, {last, 176, 0, 0, api.ErrArg},
		{0, 176, 0, 0, api.ErrBudget}, {63, 176, 0, 0, api.ErrBudget},
		{1000, 176, 0, 0, api.OK}, {177, 176, 0, 0, api.OK}, {176, 176, 0, 0, api.OK},
		// Runs 1, 4 (at 333), 2, 5 (at 500), and 3 (at 666) go; of the events the first one with 3, the other one too.
		{175, 160, 1, 0, api.OK}, {160, 160, 1, 0, api.OK}, {159, 144, 2, 0, api.OK}, {143, 128, 2, 1, api.OK}, {127, 112, 2, 2, api.OK}, {112, 112, 2, 2, api.OK}, {111, 64, 3, 2, api.OK}, {65, 64, 3, 2, api.OK}, {64, 64, 3, 2, api.OK},
	} {
		g := within(t, 1000, queries...)
		pushes(t, g, event(D, 5), "")
		pushes(t, g, event(D, 6), "")
		if c.want != api.OK {
			fails(t, g, fmt.Sprint("SetBudget ", c.n), c.want, func() api.Errno { return g.SetBudget(c.n) })
			continue
		}
		does(t, "SetBudget", g.SetBudget(c.n))
		one, _ := g.Ledger(1)
		two, _ := g.Ledger(2)
		if g.Charged() != c.charged || g.Budget() != c.n || one.Shed != c.shed1 || two.Shed != c.shed2 || one.Runs != 3-c.shed1 || two.Runs != 2-c.shed2 {
			t.Errorf("SetBudget(%d): %s", c.n, state(g, 2))
		}
		if one.Exact != (c.shed1 == 0) || two.Exact != (c.shed2 == 0) {
			t.Errorf("SetBudget(%d): %v, %v", c.n, one, two)
		}
		// What it was may be again, and what was shed does not come back.
		does(t, "SetBudget", g.SetBudget(1000))
		if g.Charged() != c.charged || g.Budget() != 1000 {
			t.Errorf("SetBudget(%d), then 1000: %s", c.n, state(g, 2))
		}
	}
}

// P21.6: the Budget is what is admitted by, at once.
func TestSetBudgetCounts(t *testing.T) {
	g := within(t, 1000, "A a ; B b WITHIN 50")
	does(t, "SetBudget(79)", g.SetBudget(79))
	pushes(t, g, event(A, 1), "")
	has(t, g, 32)
	does(t, "SetBudget(80)", g.SetBudget(80))
	pushes(t, g, event(A, 2), "")
	has(t, g, 32, 16, 32)
	does(t, "SetBudget(1000)", g.SetBudget(1000))
	pushes(t, g, event(A, 3), "")
	has(t, g, 32, 16, 16, 32, 32)
	reports(t, g, 1, ledger([][2]int64{{1, 1}}, nil, 1, 2, false))
	// Without queries nothing is too little.
	g = within(t, 16)
	does(t, "SetBudget(0)", g.SetBudget(0))
	fails(t, g, "SetBudget(17)", api.ErrArg, func() api.Errno { return g.SetBudget(17) })
	does(t, "SetBudget(16)", g.SetBudget(16))
}

// P21.6: a Tick lets time go on, and nothing else.
func TestTick(t *testing.T) {
	g := within(t, 1000, "A a ; B b WITHIN 5")
	ticks(t, g, -7)
	ticks(t, g, -7)
	fails(t, g, "Tick(-8)", api.ErrLate, func() api.Errno { return g.Tick(-8) })
	pushFails(t, g, event(A, -8), api.ErrLate)
	pushes(t, g, event(A, -7), "")
	ticks(t, g, -3)
	if g.Next() != 1 {
		t.Error(g.Next())
	}
	pushes(t, g, event(B, -2), "1[0 1]")
}

// P21.7: Exact counts from the last time at which something was shed of a query, or refused; just within its window it is not.
func TestExact(t *testing.T) {
	g := within(t, 80, "A a ; B b WITHIN 10", "D b WITHIN 3")
	pushes(t, g, event(E, 1), "")
	isExact(t, g, 1, true)
	pushes(t, g, event(A, 4), "")
	for _, c := range []struct {
		now         int64
		first, next bool
	}{{4, false, true}, {13, false, true}, {14, false, true}, {15, true, true}, {20, true, true}} {
		ticks(t, g, c.now)
		isExact(t, g, 1, c.first)
		isExact(t, g, 2, c.next)
	}
	// The last time counts, not the first one.
	pushes(t, g, event(A, 30), "")
	pushes(t, g, event(A, 35), "")
	ticks(t, g, 45)
	isExact(t, g, 1, false)
	ticks(t, g, 46)
	isExact(t, g, 1, true)
	reports(t, g, 1, ledger([][2]int64{{4, 4}, {30, 30}, {35, 35}}, nil, 3, 0, true))
	// It is when it was shed that counts, not when it began.
	g = within(t, 1000, "A a ; B b WITHIN 10")
	pushes(t, g, event(A, 1), "")
	ticks(t, g, 11)
	does(t, "SetBudget(32)", g.SetBudget(32))
	ticks(t, g, 21)
	isExact(t, g, 1, false)
	ticks(t, g, 22)
	isExact(t, g, 1, true)
}

// P21.7: what was refused counts for each query, by its own window, and not for one that came later.
func TestExactRefused(t *testing.T) {
	g := tokens(t, 0, 1, "A a WITHIN 0", "A a ; B b WITHIN 1", "A a ; B b WITHIN 1000000000")
	pushes(t, g, event(D, first), "")
	registers(t, g, "A a WITHIN 7", 4)
	for _, c := range []struct {
		now  int64
		want []bool
	}{{first, []bool{false, false, false, true}}, {first + 1, []bool{true, false, false, true}}, {first + 2, []bool{true, true, false, true}}, {first + 1000000000, []bool{true, true, false, true}}, {first + 1000000001, []bool{true, true, true, true}}, {last, []bool{true, true, true, true}}} {
		ticks(t, g, c.now)
		for n, want := range c.want {
			isExact(t, g, n+1, want)
		}
	}
	// A query that is registered again has nothing of what was shed of it.
	pushes(t, g, event(D, last), "")
	isExact(t, g, 4, false)
	does(t, "Unregister(4)", g.Unregister(4))
	registers(t, g, "A a WITHIN 7", 5)
	isExact(t, g, 5, true)
}

// P21.7: the blocks in their order: queries by their ids, runs by theirs, whatever query they are of, events by their indexes.
func TestSizes(t *testing.T) {
	g := within(t, greatest, padded("E e WITHIN 1", 200), "D a{4,4} ; A b WITHIN 9", "(D a | E a) ; A b WITHIN 9")
	does(t, "Unregister(1)", g.Unregister(1))
	registers(t, g, padded("C a ; A b WITHIN 9", 100), 4)
	pushes(t, g, event(D, 1), "")
	pushes(t, g, event(E, 1), "")
	pushes(t, g, event(D, 1), "")
	pushes(t, g, event(C, 1), "")
	pushes(t, g, event(D, 1), "")
	pushes(t, g, event(D, 1), "")
	// Of 0, 0; 1; 02, 2, 2; 3; 04, 024, 24, 4, 4; 05, 025, 25, 045, 0245, 245, 45, 5, 5.
	var runs []int
	for _, n := range []int{1, 1, 1, 2, 1, 1, 1, 2, 3, 2, 1, 1, 2, 3, 2, 3, 4, 3, 2, 1, 1} {
		runs = append(runs, round(2+4*n))
	}
	has(t, g, slices.Concat([]int{32, 32, 128}, runs, []int{16, 128, 16, 64, 16, 16})...)
}

// P21.3: the ledger of what was shed stays as small as Spans are.
func TestStateIsSmall(t *testing.T) {
	g := within(t, 32, "A a ; B b WITHIN 50")
	for n := range 100 {
		pushes(t, g, event(A, int64(n*n)), "")
		r, _ := g.Ledger(1)
		if len(r.State.L) > api.MaxSpans || r.Shed != n+1 {
			t.Fatal(r)
		}
		for at := range n + 1 {
			if !r.State.Has(int64(at * at)) {
				t.Fatalf("%v has not %d", r, at*at)
			}
		}
	}
}

// P21.2, P21.5: MaxSlots blocks, and no more, whatever the Budget is.
func TestSlots(t *testing.T) {
	// Each D is an event, and 16 runs of it, four of each of the scores 500, 333, 250 and 200.
	g := within(t, greatest, "(D a|D a|D a|D a) ; A b{1,4} WITHIN 900")
	for n := range 240 {
		pushes(t, g, event(D, int64(n)), "")
	}
	blocks := func(want, shed int) {
		t.Helper()
		if r, _ := g.Ledger(1); len(g.Sizes()) != want || r.Shed != shed || r.Exact != (shed == 0) {
			t.Errorf("%d blocks, %d shed; want %d, %d", len(g.Sizes()), r.Shed, want, shed)
		}
	}
	blocks(4081, 0)
	for n := range 6 {
		registers(t, g, "E a WITHIN 1", n+2)
	}
	blocks(4087, 0)
	// There are 9 free: an event and 8 runs of it have them; of those that come behind the ones at 200 shed such, as do
	// all others that have come further.
	pushes(t, g, event(D, 240), "")
	blocks(4096, 8)
	registers(t, g, "E a WITHIN 1", 8)
	blocks(4096, 9)
	does(t, "Unregister(8)", g.Unregister(8))
	blocks(4095, 9)
	// Just one is free, and an event and a run are two.
	pushes(t, g, event(D, 241), "")
	blocks(4096, 25)
	does(t, "SetBudget", g.SetBudget(g.Charged()))
	blocks(4096, 25)
}

// P3: what is told is new memory, and what is handed in stays as it was.
func TestNewMemory(t *testing.T) {
	c := config()
	c.Size, c.Every = 3, maxEvery
	g := begun(t, c, "A a ; !B g ; B b WITHIN 9", "A a ; B b ; C c WITHIN 9")
	pushes(t, g, event(A, 1), "")
	does(t, "SetBudget(112)", g.SetBudget(112))
	l, _ := g.Push(event(B, 2))
	pushes(t, g, event(A, 3), "")
	pushes(t, g, event(B, 4), "")
	reports(t, g, 1, ledger(nil, [][2]int64{{4, 4}}, 1, 0, false))
	reports(t, g, 2, ledger([][2]int64{{1, 1}, {3, 3}}, nil, 2, 0, false))
	does(t, "SetBudget", g.SetBudget(1000))
	registers(t, g, "E a WITHIN 9", 3)
	before := state(g, 3)
	for id := range 3 {
		r, _ := g.Ledger(id)
		clobber(r.State.L)
		clobber(r.Neg.L)
	}
	in, _ := g.Input()
	clobber(in.L)
	sizes := g.Sizes()
	for at := range sizes {
		sizes[at] = -1
	}
	for _, one := range l {
		clear(one.Tuple)
	}
	if after := state(g, 3); after != before {
		t.Errorf("%s; want %s", after, before)
	}
	if !schema.Same(c.Schema, kinds()) {
		t.Error(c.Schema)
	}
}

func clobber(l [][2]int64) {
	l = l[:cap(l)]
	for at := range l {
		l[at] = [2]int64{-99, 99}
	}
}
