package exact_test

import (
	"cmp"
	"fmt"
	"math/big"
	"reflect"
	"slices"
	"strings"
	"testing"

	"jettison/api"
	"jettison/check"
	"jettison/exact"
	"jettison/expr"
	"jettison/means"
	"jettison/parse"
	"jettison/path"
	"jettison/pattern"
	"jettison/schema"
	"jettison/step"
	"jettison/value"
	"jettison/wire"
)

// seq: numbers that look like chance, and are the same each time.
type seq uint64

func (s *seq) below(n int) int {
	*s = *s*6364136223846793005 + 1442695040888963407
	return int(uint64(*s>>33) % uint64(n))
}

func pick[T any](s *seq, l ...T) T {
	return l[s.below(len(l))]
}

// query: a text of items, with a window, and perhaps a partition.
func (s *seq) query() string {
	return s.items(3, 2) + fmt.Sprintf(" WITHIN %d", s.below(9)) + pick(s, "", " BY k")
}

// items: a text of up to so many, that neither begins nor ends with a Not, with Alts as deep.
func (s *seq) items(most, deep int) string {
	told := s.item(deep)
	for range s.below(most) {
		for range s.below(4) / 2 {
			told += " ; !" + s.one()
		}
		told += " ; " + s.item(deep)
	}
	return told
}

func (s *seq) item(deep int) string {
	if deep > 0 && s.below(4) == 0 {
		told := "(" + s.items(2, deep-1)
		for range 1 + s.below(2) {
			told += " | " + s.items(2, deep-1)
		}
		return told + ")"
	}
	name, pred, _ := strings.Cut(s.one(), "[")
	if low := 1 + s.below(3); s.below(3) == 0 {
		name += fmt.Sprintf("{%d,%d}", low, low+s.below(5-low))
	}
	if pred != "" {
		name += "[" + pred
	}
	return name
}

func (s *seq) one() string {
	name := string(rune('a' + s.below(3)))
	told := string(rune('A'+s.below(3))) + " " + name
	if s.below(4) == 0 {
		// Its own Var, or perhaps one that is bound ahead.
		other := "abcab"[name[0]-'a':][s.below(2)*s.below(3):][:1]
		told += fmt.Sprintf("[%s.k %s %s.k + %d]", name, pick(s, "<", "==", ">=", "!="), other, s.below(2))
	}
	return told
}

// stream: up to so many events; some fit nothing, and of some the time is ahead of what was.
func (s *seq) stream(most int, now func() int64) (told []wire.Event) {
	for range most - s.below(most)*s.below(2) {
		e := wire.Event{Kind: s.below(3), Time: now()}
		for range kinds()[e.Kind].Fields {
			e.V = append(e.V, int64(s.below(2)))
		}
		switch s.below(24) {
		case 0:
			e.Kind = s.below(9) - 3
		case 1:
			e.V = e.V[1:]
		case 2:
			e.V = append(e.V, 0)
		}
		told = append(told, e)
	}
	return told
}

// rising: times that mostly rise by a little.
func (s *seq) rising() func() int64 {
	at := int64(s.below(5))
	return func() int64 {
		at += int64(s.below(3))
		if s.below(9) == 0 {
			return at - int64(s.below(9))
		}
		return at
	}
}

// ends: times that rise, mostly, all over 64 bits, by a little at their ends, and in the middle.
func (s *seq) ends() func() int64 {
	l := []int64{least, least + 1, least + 4, least + 8, least + 9, least + 1000000000, -1000000000, -5, -1, 0, 1, 3, 1000000000, 1000000001, most - 1000000000, most - 9, most - 5, most - 4, most - 1, most}
	at := s.below(2) * s.below(len(l))
	return func() int64 {
		at = min(at+s.below(3)*s.below(2), len(l)-1)
		if s.below(12) == 0 {
			return l[s.below(len(l))]
		}
		return l[at]
	}
}

// model: what the chapter's words come to, told of all runs that there can be, each asked by itself, so that nothing
// hangs on how one came out of another. Of queries that may be, and up to some 8 events that were not refused.
type model struct {
	s     []schema.Kind
	q     pattern.Query
	l     []wire.Event
	paths [][]path.Step
}

// wrong: the error of an event that comes behind these.
func (m model) wrong(e wire.Event) api.Errno {
	if e.Kind < 0 || e.Kind >= len(m.s) {
		return api.ErrName
	}
	if len(e.V) != len(m.s[e.Kind].Fields) {
		return api.ErrForm
	}
	if len(m.l) > 0 && m.l[len(m.l)-1].Time > e.Time {
		return api.ErrLate
	}
	return api.OK
}

// tuples: all rising lists of indexes that there are.
func (m model) tuples() (told [][]int) {
	for set := 1; set < 1<<len(m.l); set++ {
		var one []int
		for at := range m.l {
			if set>>at&1 == 1 {
				one = append(one, at)
			}
		}
		told = append(told, one)
	}
	return told
}

// told by the last event, and the runs behind it.
func (m model) all() (told [][]int, runs []step.Run) {
	for _, tuple := range m.tuples() {
		for n, steps := range m.paths {
			if len(tuple) > len(steps) || !m.begins(steps, tuple) {
				continue
			}
			if len(tuple) < len(steps) && m.waits(steps, tuple) {
				r := step.Run{Path: n, At: len(tuple), Tuple: tuple}
				for _, at := range tuple {
					r.Events = append(r.Events, m.l[at])
				}
				runs = append(runs, r)
			}
			if len(tuple) == len(steps) && tuple[len(tuple)-1] == len(m.l)-1 {
				told = append(told, tuple)
			}
		}
	}
	slices.SortFunc(told, slices.Compare)
	slices.SortFunc(runs, func(a, b step.Run) int { return order(a.Path, b.Path, a.Tuple, b.Tuple) })
	return slices.CompactFunc(told, slices.Equal), runs
}

// order of runs: by the event that made them; of one event by the runs that were extended, in order, and behind all of
// these those that begin, by their paths.
func order(a, b int, s, t []int) int {
	switch {
	case len(s) == 0 && len(t) == 0:
		return cmp.Compare(a, b)
	case len(s) == 0:
		return 1
	case len(t) == 0:
		return -1
	}
	if n := cmp.Compare(s[len(s)-1], t[len(t)-1]); n != 0 {
		return n
	}
	return order(a, b, s[:len(s)-1], t[:len(t)-1])
}

// begins: is a tuple what the first steps match?
func (m model) begins(steps []path.Step, tuple []int) bool {
	for n, at := range tuple {
		one := steps[n]
		if !m.asks(one.Kind, one.Var, one.Pred, at, steps, tuple[:n]) || !m.near(tuple[0], at) {
			return false
		}
		if n > 0 && m.guarded(one, tuple[n-1]+1, at, steps, tuple[:n]) {
			return false
		}
	}
	return true
}

// waits: has nothing guarded the next step up to now, and is now near?
func (m model) waits(steps []path.Step, tuple []int) bool {
	return !m.guarded(steps[len(tuple)], tuple[len(tuple)-1]+1, len(m.l), steps, tuple) && m.near(tuple[0], len(m.l)-1)
}

func (m model) guarded(one path.Step, from, to int, steps []path.Step, tuple []int) bool {
	for at := from; at < to; at++ {
		for _, g := range one.Guards {
			if m.asks(g.Kind, g.Var, g.Pred, at, steps, tuple) {
				return true
			}
		}
	}
	return false
}

func (m model) near(first, now int) bool {
	gone := new(big.Int).Sub(big.NewInt(m.l[now].Time), big.NewInt(m.l[first].Time))
	return gone.IsInt64() && gone.Cmp(big.NewInt(m.q.Within)) <= 0
}

func (m model) asks(kind int, name string, preds []expr.Expr, at int, steps []path.Step, tuple []int) bool {
	e := m.l[at]
	if e.Kind != kind || m.q.By != "" && len(tuple) > 0 && m.by(e) != m.by(m.l[tuple[0]]) {
		return false
	}
	var bound []value.Bind
	for n, one := range tuple {
		bound = append(bound, value.Bind{Var: steps[n].Var, Fields: m.s[m.l[one].Kind].Fields, V: m.l[one].V})
	}
	return len(preds) == 0 || value.Holds(preds[0], append(bound, value.Bind{Var: name, Fields: m.s[kind].Fields, V: e.V}))
}

func (m model) by(e wire.Event) int64 {
	return e.V[slices.Index(m.s[e.Kind].Fields, m.q.By)]
}

// mayBe: queries that look like chance; of those that may not be none.
func (s *seq) mayBe() pattern.Query {
	for {
		q, _, e := parse.Parse(s.query())
		if e == api.OK && check.Check(kinds(), q) == api.OK {
			return q
		}
	}
}

// counts: what came, so that what is held against the model is not all nothing.
type counts struct {
	told, runs, gone, late, misfits, long int
}

// follow holds one object against the model, event by event, and tells what was told in all, and what was not refused.
func follow(t *testing.T, q pattern.Query, l []wire.Event, had *counts) (told [][]int, kept []wire.Event) {
	t.Helper()
	paths, _ := path.Of(kinds(), q)
	m := model{s: kinds(), q: q, paths: paths}
	x, e := exact.New(kinds(), q)
	if e != api.OK {
		t.Fatalf("New(%q): %d", pattern.Put(q), e)
	}
	var want [][]int
	var runs []step.Run
	for _, one := range l {
		want = nil
		wrong := m.wrong(one)
		if wrong == api.OK {
			m.l = append(m.l, one)
			was := len(runs)
			want, runs = m.all()
			had.gone += max(0, was-len(runs))
		}
		got, e := x.Push(one)
		if e != wrong || put(got) != put(want) || !slices.EqualFunc(x.Runs(), runs, same) || x.Next() != len(m.l) {
			t.Fatalf("%q, of %v: Push(%v) tells %q, %d; want %q, %d; runs %q; want %q; Next %d; want %d", pattern.Put(q), m.l, one, put(got), e, put(want), wrong, show(x.Runs()), show(runs), x.Next(), len(m.l))
		}
		told = append(told, got...)
		had.note(wrong, got, runs)
	}
	return told, m.l
}

func (had *counts) note(wrong api.Errno, told [][]int, runs []step.Run) {
	had.told += len(told)
	had.runs += len(runs)
	for _, r := range runs {
		had.long = max(had.long, r.At)
	}
	switch wrong {
	case api.OK:
	case api.ErrLate:
		had.late++
	default:
		had.misfits++
	}
}

// P16.2, P16.3: what is told by each event, and all runs in order behind it, of queries and events that look like chance.
func TestPushAgainstModel(t *testing.T) {
	s := seq(16)
	var had counts
	for at := range 15000 {
		now := s.rising()
		if at%3 == 0 {
			now = s.ends()
		}
		follow(t, s.mayBe(), s.stream(8, now), &had)
	}
	if had.told < 9000 || had.runs < 200000 || had.gone < 15000 || had.late < 6000 || had.misfits < 8000 || had.long < 5 {
		t.Errorf("%+v", had)
	}
}

// P16.2, P16.3: all streams of up to so many events, of queries with all that there is in them.
func TestPushOfAllShort(t *testing.T) {
	leaves := read(t, "A0:0,0 A1:1,1 B1:0,0 B2:1,1 C1:0,0,0 C0:1,0,1 C0:1,1")
	var had counts
	for _, text := range []string{
		"A a{1,2} ; !C c[c.x == a.x] ; B b WITHIN 1", "A a ; !A a[a.x > 0] ; !C c ; (B b | C b{1,2}[b.y == 0]) WITHIN 1 BY k", "(A a ; !C a ; A b | B b) ; (C c | A a[a.x >= b.k]) WITHIN 0",
	} {
		q := parsed(t, text)
		streams := [][]wire.Event{nil}
		for range 4 {
			var longer [][]wire.Event
			for _, l := range streams {
				for _, e := range leaves {
					longer = append(longer, append(slices.Clip(l), e))
				}
			}
			streams = longer
		}
		// Each shorter one is ahead in one of these.
		for _, l := range streams {
			follow(t, q, l, &had)
		}
	}
	if had.told < 1000 || had.runs < 10000 || had.gone < 1000 || had.late < 3000 || had.misfits < 3000 {
		t.Errorf("%+v", had)
	}
}

// P16.4, P16.3: All is M (chapter 13) of what was not refused, and is what Push tells of each.
func TestAllIsM(t *testing.T) {
	s := seq(17)
	var had counts
	for at := range 6000 {
		q, now := s.mayBe(), s.rising()
		if at%3 == 0 {
			now = s.ends()
		}
		l := s.stream(9, now)
		told, kept := follow(t, q, l, &had)
		isM(t, q, l, kept)
		// Each tuple is told by its last event, so by none twice.
		slices.SortFunc(told, slices.Compare)
		if got, _ := exact.All(kinds(), q, l); put(got) != put(told) {
			t.Fatalf("All(%q, %v) = %q; one by one %q", pattern.Put(q), l, put(got), put(told))
		}
	}
	if had.told < 4000 || had.late < 2000 || had.misfits < 3000 {
		t.Errorf("%+v", had)
	}
}

// isM: of kept, which is what is not refused of l.
func isM(t *testing.T, q pattern.Query, l, kept []wire.Event) int {
	t.Helper()
	want, e := means.M(kinds(), q, kept)
	if e != api.OK {
		t.Fatalf("M(%q): %d", pattern.Put(q), e)
	}
	if got, e := exact.All(kinds(), q, l); put(got) != put(want) || e != api.OK {
		t.Fatalf("All(%q, %v) = %q, %d; M of %v is %q", pattern.Put(q), l, put(got), e, kept, put(want))
	}
	return len(want)
}

// P16.4: of longer streams, which the model has no room for.
func TestAllIsMOfLong(t *testing.T) {
	s := seq(18)
	told := 0
	for at := range 5000 {
		q, now := s.mayBe(), s.rising()
		if at%3 == 0 {
			now = s.ends()
		}
		l := s.stream(16, now)
		m := model{s: kinds()}
		for _, e := range l {
			if m.wrong(e) == api.OK {
				m.l = append(m.l, e)
			}
		}
		told += isM(t, q, l, m.l)
	}
	if told < 8000 {
		t.Errorf("told %d tuples", told)
	}
}

// P16.2, P2: what is refused turns nothing: with any of it put in between all is told as without.
func TestRefusedTurnsNothing(t *testing.T) {
	s, wrongs := seq(19), misfits()
	told := 0
	for range 6000 {
		q := s.mayBe()
		x, _ := exact.New(kinds(), q)
		y, _ := exact.New(kinds(), q)
		for _, e := range s.stream(8, s.rising()) {
			want, wrong := x.Push(e)
			for range s.below(3) {
				// One that fits is late, if the last one's time is above it; so it must have one.
				other := pick(&s, wrongs...)
				if y.Next() > 0 && s.below(2) == 0 {
					other = wire.Event{Kind: s.below(3), Time: least}
					other.V = make([]int64, len(kinds()[other.Kind].Fields))
				}
				if got, e := y.Push(other); got != nil || e == api.OK {
					t.Fatalf("%q: Push(%v) tells %q, %d", pattern.Put(q), other, put(got), e)
				}
			}
			got, e := y.Push(e)
			if put(got) != put(want) || e != wrong || !slices.EqualFunc(x.Runs(), y.Runs(), same) || x.Next() != y.Next() {
				t.Fatalf("%q: with what is refused %q, %d, %q, %d; without %q, %d, %q, %d", pattern.Put(q), put(got), e, show(y.Runs()), y.Next(), put(want), wrong, show(x.Runs()), x.Next())
			}
			told += len(got)
		}
	}
	if told < 3000 {
		t.Errorf("told %d tuples", told)
	}
}

// P1: as many steps, paths, kinds, events and runs as there may be, and more; and trees as deep as they may be.
func TestLimits(t *testing.T) {
	as := slices.Repeat([]wire.Event{{V: []int64{0, 1}}}, 13)
	for text, want := range map[string]int{
		"A a{4,4} ; A b{4,4} ; A c{4,4}": 13, "A a{4,4} ; A b{4,4} ; A c{3,3}": 78,
		// Of 32 paths with 3 to 10 steps each tuple is told once.
		"A a{1,4} ; A b{1,4} ; A c{1,2}": 1<<13 - 1 - 13 - 78 - 78 - 13 - 1, "(A a | A b | A c | A d | A e | A f | A g | A h | A i | A j | A k)": 13,
		"A a ; !B b ; !B c ; !B d ; !B e ; !B f ; !B g ; !B h ; !B i ; !B j ; !A k ; A l": 12,
	} {
		if told, e := exact.All(kinds(), parsed(t, text+" WITHIN 0 BY k"), as); len(told) != want || e != api.OK {
			t.Errorf("%q: %d tuples, %d; want %d", text, len(told), e, want)
		}
	}
	// Many events, of which few are near: those that are not are kept no longer.
	x := begun(t, "A a ; !A b ; B c WITHIN 5")
	for at := range 100000 {
		told, e := x.Push(wire.Event{Kind: at % 2, Time: int64(at), V: []int64{1, 1}})
		if want := []string{"", fmt.Sprint(at-1, " ", at)}[at%2]; put(told) != want || e != api.OK || len(x.Runs()) != 1 || x.Next() != at+1 {
			t.Fatalf("%d: %q, %d; runs %q, Next %d", at, put(told), e, show(x.Runs()), x.Next())
		}
	}
	// Many runs at once.
	y := begun(t, "A a ; B b WITHIN 0")
	for range 2000 {
		y.Push(wire.Event{V: []int64{1, 1}})
	}
	told, e := y.Push(wire.Event{Kind: 1, V: []int64{1, 1}})
	if len(told) != 2000 || e != api.OK || len(y.Runs()) != 2000 || put(told[1998:]) != "1998 2000; 1999 2000" {
		t.Errorf("of many runs: %d tuples, %d, %d runs", len(told), e, len(y.Runs()))
	}
	deep := expr.Expr{Kind: expr.Num, N: 1}
	for range 99999 {
		deep = expr.Expr{Kind: expr.Unary, Op: "-", Kids: []expr.Expr{deep}}
	}
	items := []pattern.Item{{Kind: pattern.One, Name: "A", Var: "a", Pred: []expr.Expr{deep}}}
	refused(t, kinds(), pattern.Query{Items: items}, api.ErrLimit)
	items[0].Pred = nil
	for range 99999 {
		items = []pattern.Item{{Kind: pattern.Alt, Kids: [][]pattern.Item{items, items}[:1]}}
	}
	refused(t, kinds(), pattern.Query{Items: items}, api.ErrArg)
}

// roomy: events with room behind all lists, in which something stands.
func roomy(l []wire.Event) (told []wire.Event) {
	for _, e := range l {
		e.V = append(slices.Clip(e.V), 77, 78)[:len(e.V)]
		told = append(told, e)
	}
	return append(told, wire.Event{Time: 79}, wire.Event{V: []int64{7}})[:len(l)]
}

// full: all that stands in events, and in the room of each list.
func full(l []wire.Event) string {
	told := fmt.Sprint(l[:cap(l)])
	for _, e := range l {
		told += fmt.Sprint(e.V[:cap(e.V)])
	}
	return told
}

// roomyItems: the same items, with room behind each list in which something stands.
func roomyItems(l []pattern.Item) []pattern.Item {
	spare := pattern.Item{Kind: pattern.Not, Name: "Spare", Var: "room", Low: 7}
	var told []pattern.Item
	for _, i := range l {
		i.Pred = append(slices.Clip(i.Pred), expr.Expr{Op: "spare"})[:len(i.Pred)]
		var kids [][]pattern.Item
		for _, kid := range i.Kids {
			kids = append(kids, roomyItems(kid))
		}
		i.Kids = append(kids, []pattern.Item{spare}, nil)[:len(kids)]
		told = append(told, i)
	}
	return append(told, spare, spare)[:len(l)]
}

func fullItems(l []pattern.Item) string {
	told := fmt.Sprintf("%+v", l[:cap(l)])
	for _, i := range l {
		told += fmt.Sprintf("%+v%+v", i.Pred[:cap(i.Pred)], i.Kids[:cap(i.Kids)])
		for _, kid := range i.Kids {
			told += fullItems(kid)
		}
	}
	return told
}

// P3, P4: nothing that is handed in is written into, nor what stands behind it; told again all is the same.
func TestNothingIsWritten(t *testing.T) {
	s := seq(20)
	for range 2000 {
		q := s.mayBe()
		l, spaced, known := roomy(s.stream(8, s.rising())), pattern.Query{Items: roomyItems(q.Items), Within: q.Within, By: q.By}, kinds()
		was, wasItems := full(l), fullItems(spaced.Items)
		told, e := exact.All(known, spaced, l)
		x, _ := exact.New(known, spaced)
		for _, one := range l {
			x.Push(one)
			x.Runs()
		}
		if full(l) != was || fullItems(spaced.Items) != wasItems || !schema.Same(known, kinds()) {
			t.Fatalf("%q, of %v: what was handed in was written into", pattern.Put(q), l)
		}
		y, _ := exact.New(kinds(), q)
		for _, one := range l {
			y.Push(one)
		}
		other, otherE := exact.All(kinds(), q, l)
		if put(other) != put(told) || e != otherE || !reflect.DeepEqual(x.Runs(), y.Runs()) {
			t.Fatalf("%q, of %v: %q, %d; then %q, %d; runs %q, then %q", pattern.Put(q), l, put(told), e, put(other), otherE, show(x.Runs()), show(y.Runs()))
		}
	}
}

// scrawl over a list, and over the room behind it.
func scrawl[T any](l []T, x T) {
	l = l[:cap(l)]
	for at := range l {
		l[at] = x
	}
}

func scrawlItems(l []pattern.Item) {
	for _, i := range l {
		for _, pred := range i.Pred {
			scrawlExprs(pred.Kids)
		}
		scrawl(i.Pred, expr.Expr{Kind: expr.Num, N: 1})
		for _, kid := range i.Kids {
			scrawlItems(kid)
		}
		scrawl(i.Kids, nil)
	}
	scrawl(l, pattern.Item{Name: "D", Var: "z"})
}

func scrawlExprs(l []expr.Expr) {
	for _, e := range l {
		scrawlExprs(e.Kids)
	}
	scrawl(l, expr.Expr{Kind: expr.Num, N: 1})
}

// P3: nothing that is handed in is kept, and what is told is new: who writes into either turns nothing of what is yet
// to be told.
func TestNothingIsShared(t *testing.T) {
	s := seq(21)
	told, runs := 0, 0
	for range 2000 {
		text := pattern.Put(s.mayBe())
		q := parsed(t, text)
		x, _ := exact.New(kinds(), q)
		y, _ := exact.New(kinds(), parsed(t, text))
		scrawlItems(q.Items)
		for _, e := range s.stream(8, s.rising()) {
			want, wrong := y.Push(wire.Event{Kind: e.Kind, Time: e.Time, V: slices.Clone(e.V)})
			got, wrote := x.Push(e)
			scrawl(e.V, 55)
			if put(got) != put(want) || wrong != wrote || !slices.EqualFunc(x.Runs(), y.Runs(), same) {
				t.Fatalf("%q: %q, %d, %+v; where nothing is written %q, %d, %+v", text, put(got), wrote, x.Runs(), put(want), wrong, y.Runs())
			}
			told, runs = told+len(got), runs+len(x.Runs())
			for _, one := range got {
				scrawl(one, 55)
			}
			scrawl(got, []int{55})
			l := x.Runs()
			for at := range l {
				scrawl(l[at].Tuple, 55)
				for n := range l[at].Events {
					scrawl(l[at].Events[n].V, 55)
				}
				scrawl(l[at].Events, wire.Event{Kind: 55})
			}
			scrawl(l, step.Run{Path: 55})
		}
	}
	if told < 1000 || runs < 10000 {
		t.Errorf("told %d tuples, %d runs", told, runs)
	}
}

// seen has the place of each thing that stands in a list, or in its room.
type seen map[any]bool

func see[T any](had seen, l []T) (twice bool) {
	for at := range l[:cap(l)] {
		place := &l[:cap(l)][at]
		twice = twice || had[place]
		had[place] = true
	}
	return twice
}

func (had seen) tuples(l [][]int) bool {
	twice := see(had, l)
	for _, one := range l {
		twice = see(had, one) || twice
	}
	return twice
}

func (had seen) runs(l []step.Run) bool {
	twice := see(had, l)
	for _, r := range l {
		twice = see(had, r.Tuple) || twice
		twice = see(had, r.Events) || twice
		for _, e := range r.Events {
			twice = see(had, e.V) || twice
		}
	}
	return twice
}

// P3: no list of an answer stands where what was handed in does, or another list that was told, nor does its room.
func TestAnswersAreNew(t *testing.T) {
	s := seq(22)
	for range 1000 {
		q := s.mayBe()
		l := s.stream(8, s.rising())
		had := seen{}
		for _, e := range l {
			see(had, e.V)
		}
		x, _ := exact.New(kinds(), q)
		for _, e := range l {
			told, _ := x.Push(e)
			if had.tuples(told) || had.runs(x.Runs()) || had.runs(x.Runs()) {
				t.Fatalf("%q, of %v: what is told shares something", pattern.Put(q), l)
			}
		}
		for range 2 {
			if told, _ := exact.All(kinds(), q, l); had.tuples(told) {
				t.Fatalf("All(%q, %v) shares something", pattern.Put(q), l)
			}
		}
	}
}

// P4: what one object is told turns no other one.
func TestEachByItself(t *testing.T) {
	known := kinds()
	q := parsed(t, "A a ; !C c ; B b WITHIN 5")
	x, _ := exact.New(known, q)
	y, _ := exact.New(known, q)
	for _, e := range read(t, "A1:0,0 A2:0,0") {
		x.Push(e)
	}
	if len(y.Runs()) != 0 || y.Next() != 0 {
		t.Errorf("runs %q, Next %d", show(y.Runs()), y.Next())
	}
	for _, e := range read(t, "A-9:0,0 C-8:0,0,0 B-8:0,0") {
		if told, wrong := y.Push(e); len(told) != 0 || wrong != api.OK {
			t.Errorf("Push(%v) tells %q, %d", e, put(told), wrong)
		}
	}
	if told, _ := x.Push(read(t, "B3:0,0")[0]); put(told) != "0 2; 1 2" || show(x.Runs()) != "0: 0; 0: 1" || y.Next() != 3 {
		t.Errorf("%q, runs %q, Next %d", put(told), show(x.Runs()), y.Next())
	}
}

// P5: a list of nothing may be nil or empty.
func TestNilOrEmpty(t *testing.T) {
	for _, v := range [][]int64{nil, {}} {
		for _, pred := range [][]expr.Expr{nil, {}} {
			for _, kids := range [][][]pattern.Item{nil, {}} {
				one := pattern.Item{Name: "A", Var: "a", Pred: pred, Kids: kids}
				not := pattern.Item{Kind: pattern.Not, Name: "B", Var: "b", Pred: pred, Kids: kids}
				s := []schema.Kind{{Name: "A"}, {Name: "B", Fields: []string{}}}
				told, e := exact.All(s, pattern.Query{Items: []pattern.Item{one, not, one}}, []wire.Event{{V: v}, {V: v}, {Kind: 1, V: v}, {V: v}, {V: v}})
				if put(told) != "0 1; 3 4" || e != api.OK {
					t.Errorf("of empty lists: %q, %d", put(told), e)
				}
			}
		}
	}
}
