package engine_test

import (
	"fmt"
	"testing"

	"jettison/api"
	"jettison/engine"
	"jettison/wire"
)

// tokens: an engine with room for all, and so many tokens.
func tokens(t *testing.T, size int, every int64, queries ...string) *engine.Engine {
	t.Helper()
	c := config()
	c.Size, c.Every = size, every
	return begun(t, c, queries...)
}

func ticks(t *testing.T, g *engine.Engine, now int64) {
	t.Helper()
	does(t, fmt.Sprint("Tick ", now), g.Tick(now))
	if g.Now() != now {
		t.Errorf("Now() = %d; want %d", g.Now(), now)
	}
}

// P21.3: a run is gone one time behind its window, and not just at its end, by Tick and by Push.
func TestExpires(t *testing.T) {
	g := within(t, 1000, "A a ; B b WITHIN 5")
	pushes(t, g, event(A, 1), "")
	ticks(t, g, 6)
	has(t, g, 32, 16, 32)
	pushes(t, g, event(B, 6), "1[0 1]")
	ticks(t, g, 7)
	has(t, g, 32)
	reports(t, g, 1, ledger(nil, nil, 0, 0, true))
	pushes(t, g, event(A, 10), "")
	pushes(t, g, event(A, 11), "")
	pushes(t, g, event(B, 16), "1[3 4]")
	has(t, g, 32, 16, 32)
	pushes(t, g, event(C, 17), "")
	has(t, g, 32)
	// An event that is refused lets expire as well, and that is not shed.
	g = tokens(t, 1, maxEvery, "A a ; !C c ; B b WITHIN 5")
	pushes(t, g, event(A, 1), "")
	pushes(t, g, event(C, 7), "")
	reports(t, g, 1, ledger(nil, nil, 0, 0, false))
}

// P21.3: a Within of 0 lasts for one time, however many events have it.
func TestWithinZero(t *testing.T) {
	g := within(t, 1000, "A a ; B b WITHIN 0")
	pushes(t, g, event(A, 1), "")
	pushes(t, g, event(A, 1), "")
	pushes(t, g, event(B, 1), "1[0 2]1[1 2]")
	pushes(t, g, event(B, 1), "1[0 3]1[1 3]")
	has(t, g, 32, 16, 16, 32, 32)
	ticks(t, g, 1)
	has(t, g, 32, 16, 16, 32, 32)
	pushes(t, g, event(B, 2), "")
	has(t, g, 32)
}

// P21.3: each query has its own window.
func TestExpiresEach(t *testing.T) {
	g := within(t, 1000, "A a ; B b WITHIN 5", "A a ; B b WITHIN 7", "A a ; B b WITHIN 6")
	pushes(t, g, event(A, 0), "")
	for _, c := range []struct {
		now   int64
		sizes []int
	}{{5, []int{16, 16, 16, 32}}, {6, []int{16, 16, 32}}, {7, []int{16, 32}}, {8, nil}} {
		ticks(t, g, c.now)
		has(t, g, append([]int{32, 32, 32}, c.sizes...)...)
	}
}

// P21.4: bytes that are no event, events that do not fit, and late ones; of two errors that which is named first.
func TestPushErrors(t *testing.T) {
	g := within(t, 1000, "A a ; B b WITHIN 9")
	pushes(t, g, event(A, 5), "")
	put := func(kind int, time int64, v ...int64) string {
		s, _ := wire.Put(wire.Event{Kind: kind, Time: time, V: v})
		return s
	}
	for _, c := range []struct {
		bytes string
		want  api.Errno
	}{
		{"", api.ErrForm}, {"x", api.ErrForm}, {event(B, 6)[:25], api.ErrForm}, {event(B, 6) + "x", api.ErrForm}, {event(B, 6)[1:], api.ErrForm},
		{put(5, 6), api.ErrName}, {put(255, 6, 1, 2), api.ErrName}, {put(B, 6), api.ErrForm}, {put(B, 6, 1), api.ErrForm}, {put(B, 6, 1, 2, 3), api.ErrForm}, {put(D, 6, 1), api.ErrForm},
		{event(B, 4), api.ErrLate}, {event(B, first), api.ErrLate}, {event(C, 4), api.ErrLate},
		{put(5, 4), api.ErrName}, {put(B, 4), api.ErrForm}, {put(5, 4, 1)[:9], api.ErrForm},
	} {
		pushFails(t, g, c.bytes, c.want)
	}
	pushes(t, g, event(B, 5), "1[0 1]")
}

// P21.4: nothing that is wrong takes a token, or time, or an index.
func TestPushErrorTakesNothing(t *testing.T) {
	g := tokens(t, 2, maxEvery, "A a ; B b WITHIN 9")
	pushes(t, g, event(A, 5), "")
	pushFails(t, g, event(B, 4), api.ErrLate)
	pushFails(t, g, event(B, 9)+"x", api.ErrForm)
	wrong, _ := wire.Put(wire.Event{Kind: 9, Time: 9})
	pushFails(t, g, wrong, api.ErrName)
	pushes(t, g, event(B, 8), "1[0 1]")
	pushes(t, g, event(B, 8), "")
	if in, refused := g.Input(); refused != 1 || !in.Has(2) || in.Has(1) {
		t.Error(in, refused)
	}
}

// P21.4, P21.6: times at both ends of 64 bits, and such as are now.
func TestTimes(t *testing.T) {
	g := within(t, 1000, "A a ; B b WITHIN 1000000000")
	ticks(t, g, first)
	pushes(t, g, event(A, first), "")
	pushes(t, g, event(B, first), "1[0 1]")
	ticks(t, g, first+1)
	pushFails(t, g, event(B, first), api.ErrLate)
	fails(t, g, "Tick", api.ErrLate, func() api.Errno { return g.Tick(first) })
	pushes(t, g, event(B, first+1000000000), "1[0 2]")
	pushes(t, g, event(A, -5), "")
	pushes(t, g, event(B, 5), "1[3 4]")
	// From the one end to the other what is between has no room in 64 bits.
	pushes(t, g, event(A, last-1), "")
	has(t, g, 32, 16, 32)
	pushes(t, g, event(A, last), "")
	pushes(t, g, event(B, last), "1[5 7]1[6 7]")
	for _, now := range []int64{last - 1, 0, -1, first} {
		fails(t, g, "Tick", api.ErrLate, func() api.Errno { return g.Tick(now) })
		pushFails(t, g, event(B, now), api.ErrLate)
	}
	ticks(t, g, last)
	pushes(t, g, event(B, last), "1[5 8]1[6 8]")
	g = within(t, 1000, "A a ; B b WITHIN 1000000000")
	pushes(t, g, event(A, first), "")
	ticks(t, g, last)
	has(t, g, 32)
}

// P21.4: what is matched goes by the order of queries, and of one by the order of tuples, each once.
func TestTold(t *testing.T) {
	g := within(t, 2000, "A a ; D d WITHIN 9", "(A a | A a{1,2}) ; D d WITHIN 9", "D d WITHIN 9")
	pushes(t, g, event(A, 1), "")
	pushes(t, g, event(A, 2), "")
	pushes(t, g, event(A, 3), "")
	pushes(t, g, event(D, 3), "1[0 3]1[1 3]1[2 3]2[0 1 3]2[0 2 3]2[0 3]2[1 2 3]2[1 3]2[2 3]3[3]")
	does(t, "Unregister(1)", g.Unregister(1))
	registers(t, g, "D d WITHIN 9", 4)
	pushes(t, g, event(D, 3), "2[0 1 4]2[0 2 4]2[0 4]2[1 2 4]2[1 4]2[2 4]3[4]4[4]")
}

// P21.4: a query is asked by its Preds and its By.
func TestMatches(t *testing.T) {
	g := within(t, 1000, "A a[a.x > 2] ; B b[b.y > a.x] WITHIN 9 BY k")
	for n, c := range []struct{ bytes, want string }{
		{event(A, 1, 7, 2), ""}, {event(A, 1, 7, 3), ""}, {event(A, 1, 8, 3), ""}, {event(B, 1, 7, 3), ""}, {event(B, 1, 7, 4), "1[1 4]"}, {event(B, 1, 8, 4), "1[2 5]"}, {event(B, 1, 9, 4), ""},
	} {
		pushes(t, g, c.bytes, c.want)
		if g.Next() != n+1 {
			t.Errorf("Next() = %d; want %d", g.Next(), n+1)
		}
	}
}

// P21.4: what guards a run ends it, noted nowhere, once it was asked whether it matches.
func TestGuarded(t *testing.T) {
	g := within(t, 1000, "A a ; !B g[g.y > 5] ; B b ; C c WITHIN 9 BY k", "A a ; B b WITHIN 9")
	pushes(t, g, event(A, 1, 7), "")
	pushes(t, g, event(A, 1, 8), "")
	has(t, g, 64, 32, 16, 16, 16, 16, 32, 32)
	// Event 2 goes on with the run of 0, and then ends it: 0 is held by what it made.
	pushes(t, g, event(B, 2, 7, 6), "2[0 2]2[1 2]")
	has(t, g, 64, 32, 16, 16, 16, 16, 32, 32, 32)
	reports(t, g, 1, ledger(nil, nil, 0, 2, true))
	pushes(t, g, event(C, 3, 7), "1[0 2 3]")
	pushes(t, g, event(B, 3, 7, 5), "2[0 4]2[1 4]")
	pushes(t, g, event(C, 3, 7), "1[0 2 5]")
	// This one just guards the run of 1, for its partition is that one's.
	pushes(t, g, event(B, 4, 8, 5), "2[0 6]2[1 6]")
	reports(t, g, 1, ledger(nil, nil, 0, 3, true))
	pushes(t, g, event(B, 4, 8, 6), "2[0 7]2[1 7]")
	// It matched too: of 1 there are now what goes on by 6 and by 7, and of 0 what goes on by 2.
	reports(t, g, 1, ledger(nil, nil, 0, 3, true))
	pushes(t, g, event(C, 9, 8), "1[1 6 8]1[1 7 8]")
	ticks(t, g, 10)
	reports(t, g, 1, ledger(nil, nil, 0, 3, true))
	ticks(t, g, 11)
	has(t, g, 64, 32)
}

// P21.4: what guards and does not match ends the run, and its event is no more.
func TestGuardedAlone(t *testing.T) {
	g := within(t, 1000, "A a ; !C c[c.x > a.x] ; B b WITHIN 9")
	pushes(t, g, event(A, 1, 0, 5), "")
	pushes(t, g, event(A, 1, 0, 7), "")
	pushes(t, g, event(C, 1, 0, 6), "")
	has(t, g, 64, 16, 32)
	pushes(t, g, event(B, 2), "1[1 3]")
	reports(t, g, 1, ledger(nil, nil, 0, 1, true))
}

// P21.4: with a token left an event is asked, with none it is refused; tokens come with time.
func TestTokens(t *testing.T) {
	g := tokens(t, 2, 10, "D d WITHIN 9")
	for n, c := range []struct {
		time    int64
		want    string
		refused int
	}{{0, "1[0]", 0}, {0, "1[1]", 0}, {0, "", 1}, {9, "", 2}, {10, "1[4]", 2}, {10, "", 3}, {19, "", 4}, {20, "1[7]", 4}, {40, "1[8]", 4}, {40, "1[9]", 4}, {40, "", 5}} {
		pushes(t, g, event(D, c.time), c.want)
		if in, refused := g.Input(); refused != c.refused || in.Has(int64(n)) != (c.want == "") || g.Next() != n+1 || g.Now() != c.time {
			t.Errorf("%d: Input() = %v, %d; Next() = %d, Now() = %d", n, in, refused, g.Next(), g.Now())
		}
	}
	// A time at which nothing comes earns as well, and a Tick takes nothing.
	ticks(t, g, 50)
	ticks(t, g, 60)
	pushes(t, g, event(D, 60), "1[11]")
	pushes(t, g, event(D, 60), "1[12]")
	pushes(t, g, event(D, 60), "")
}

// P21.4: the ends of Size and Every.
func TestTokenBounds(t *testing.T) {
	g := tokens(t, 0, 1, "D d WITHIN 9")
	for n := range 6 {
		pushes(t, g, event(D, int64(n)*100), "")
	}
	if in, refused := g.Input(); refused != 6 || fmt.Sprint(in.L) != "[[0 2] [3 3] [4 4] [5 5]]" {
		t.Error(in, refused)
	}
	g = tokens(t, 1, maxEvery, "D d WITHIN 9")
	pushes(t, g, event(D, first), "1[0]")
	pushes(t, g, event(D, first), "")
	pushes(t, g, event(D, last), "1[2]")
	pushes(t, g, event(D, last), "")
	g = tokens(t, api.MaxTokens, maxEvery, "D d WITHIN 9")
	for n := range 1000 {
		pushes(t, g, event(D, 0), fmt.Sprintf("1[%d]", n))
	}
}

// P21.4: what is refused counts for each query, and where it may have been a guard of runs these are gone; elsewhere they stay.
func TestRefused(t *testing.T) {
	g := tokens(t, 3, maxEvery, "A a ; !C c[c.x > 9] ; B b WITHIN 20 BY k", "A a ; B b WITHIN 20", "C a ; !C c ; B b WITHIN 20", "(A a ; B b | A a ; !C c ; D d) ; A e WITHIN 20")
	pushes(t, g, event(A, 1, 7), "")
	pushes(t, g, event(A, 2, 8), "")
	pushes(t, g, event(D, 4), "")
	// Of a Kind that no Guard has: all runs stay.
	pushes(t, g, event(B, 5), "")
	reports(t, g, 1, ledger(nil, nil, 0, 2, false))
	reports(t, g, 2, ledger(nil, nil, 0, 2, false))
	reports(t, g, 3, ledger(nil, nil, 0, 0, false))
	reports(t, g, 4, ledger(nil, nil, 0, 6, false))
	has(t, g, 64, 32, 32, 64, 16, 16, 16, 16, 16, 16, 16, 16, 16, 16, 32, 32, 16)
	// Of one that has a Guard, whatever its numbers are: also where the Guard is of another path, or of an earlier step.
	// Of a query without runs nothing is noted.
	pushes(t, g, event(C, 6, 9), "")
	for range 2 {
		reports(t, g, 1, ledger(nil, [][2]int64{{6, 6}}, 2, 0, false))
		reports(t, g, 2, ledger(nil, nil, 0, 2, false))
		reports(t, g, 3, ledger(nil, nil, 0, 0, false))
		reports(t, g, 4, ledger(nil, [][2]int64{{6, 6}}, 6, 0, false))
		has(t, g, 64, 32, 32, 64, 16, 16, 32, 32)
		// Once more there are no runs that it ends.
		pushes(t, g, event(C, 7, 9), "")
	}
	if in, refused := g.Input(); refused != 4 || fmt.Sprint(in.L) != "[[3 3] [4 4] [5 5] [6 6]]" {
		t.Error(in, refused)
	}
}

// P21.4: Neg has each time, also twice at one time once.
func TestNeg(t *testing.T) {
	g := tokens(t, 1, 1, "A a ; !B b ; C c WITHIN 9")
	want := [][2]int64{}
	for n := range 4 {
		at := int64(n)*10 + 1
		pushes(t, g, event(A, at), "")
		pushes(t, g, event(B, at), "")
		want = append(want, [2]int64{at, at})
		reports(t, g, 1, ledger(nil, want, n+1, 0, false))
	}
	pushes(t, g, event(A, 100), "")
	pushes(t, g, event(B, 100), "")
	reports(t, g, 1, ledger(nil, [][2]int64{{1, 11}, {21, 21}, {31, 31}, {100, 100}}, 5, 0, false))
	isExact(t, g, 1, false)
	ticks(t, g, 109)
	isExact(t, g, 1, false)
	ticks(t, g, 110)
	isExact(t, g, 1, true)
}

// P21.4: an event that was refused, and might have been what must not come, lets no match be told over it.
func TestRefusedIsSound(t *testing.T) {
	g := tokens(t, 1, 5, "A a ; !C c ; B b WITHIN 20")
	pushes(t, g, event(A, 0), "")
	pushes(t, g, event(C, 1), "")
	pushes(t, g, event(B, 5), "")
	pushes(t, g, event(A, 10), "")
	pushes(t, g, event(B, 15), "1[3 4]")
	reports(t, g, 1, ledger(nil, [][2]int64{{1, 1}}, 1, 1, false))
}

// P21.4: one query after the other: what is admitted of one may shed what the next one would have matched.
func TestQueryByQuery(t *testing.T) {
	queries := []string{"A a ; B b ; C c WITHIN 50", "A a ; B b WITHIN 50"}
	g := within(t, 64+16+16+32, queries...)
	pushes(t, g, event(A, 1), "")
	has(t, g, 32, 32, 16, 16, 32)
	// The candidate of query 1 needs 48: to shed its own run is too little.
	pushes(t, g, event(B, 2), "")
	reports(t, g, 1, ledger([][2]int64{{1, 1}}, nil, 2, 0, false))
	reports(t, g, 2, ledger([][2]int64{{1, 1}}, nil, 1, 0, false))
	has(t, g, 32, 32)
	// The other way round query 2 is asked first.
	g = within(t, 64+16+16+32, queries[1], queries[0])
	pushes(t, g, event(A, 1), "")
	pushes(t, g, event(B, 2), "1[0 1]")
	reports(t, g, 1, ledger([][2]int64{{1, 1}}, nil, 1, 0, false))
	reports(t, g, 2, ledger([][2]int64{{1, 1}}, nil, 2, 0, false))
	has(t, g, 32, 32)
}
