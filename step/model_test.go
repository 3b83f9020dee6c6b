package step_test

import (
	"fmt"
	"math/big"
	"reflect"
	"slices"
	"testing"

	"jettison/api"
	"jettison/expr"
	"jettison/means"
	"jettison/parse"
	"jettison/path"
	"jettison/schema"
	"jettison/step"
	"jettison/value"
	"jettison/wire"
)

// seq: numbers that look like chance, and are the same each time.
type seq uint64

func (s *seq) below(n int) int {
	*s = *s*6364136223846793005 + 1442695040888963407
	return int(uint64(*s>>33) % uint64(n))
}

// mostly n, else a number below end.
func (s *seq) mostly(n, end int) int {
	if s.below(20) > 0 {
		return n
	}
	return s.below(end)
}

// kind: one of three, or, seldom, none.
func (s *seq) kind() int {
	return s.mostly(s.below(3), 5) - s.mostly(0, 2)
}

func pick[T any](s *seq, l ...T) T {
	return l[s.below(len(l))]
}

// wrong: what the chapter's words have against a run, the first thing; nothing, if it is right.
func wrong(p step.Plan, r step.Run) string {
	if r.Path < 0 || r.Path > len(p.Paths)-1 {
		return "Path"
	}
	if r.At < 0 || r.At > len(p.Paths[r.Path]) {
		return "At"
	}
	if len(r.Tuple) != r.At || len(r.Events) != r.At {
		return "count"
	}
	if !slices.IsSorted(r.Tuple) || len(slices.Compact(slices.Clone(r.Tuple))) != r.At {
		return "order"
	}
	for at, e := range r.Events {
		if e.Kind < 0 || e.Kind >= len(p.Schema) || len(p.Schema[e.Kind].Fields) != len(e.V) {
			return "fit"
		}
		if e.Kind != p.Paths[r.Path][at].Kind {
			return "kind"
		}
		if p.By != "" && !slices.Contains(p.Schema[e.Kind].Fields, p.By) {
			return "field"
		}
	}
	return ""
}

func binds(p step.Plan, r step.Run) (told []value.Bind) {
	for at := range r.Events {
		told = append(told, value.Bind{Var: p.Paths[r.Path][at].Var, Fields: p.Schema[r.Events[at].Kind].Fields, V: r.Events[at].V})
	}
	return told
}

// deny: what the chapter's words have against an event, as what a Step, or a Guard, asks for; the first thing.
func deny(p step.Plan, r step.Run, e wire.Event, kind int, v string, preds []expr.Expr, timed bool) string {
	if e.Kind < 0 || e.Kind >= len(p.Schema) || len(p.Schema[e.Kind].Fields) != len(e.V) {
		return "fit"
	}
	if e.Kind != kind {
		return "kind"
	}
	at := slices.Index(p.Schema[kind].Fields, p.By)
	if p.By != "" && at < 0 {
		return "field"
	}
	if len(r.Events) > 0 {
		first := r.Events[0]
		if p.By != "" && first.V[slices.Index(p.Schema[first.Kind].Fields, p.By)] != e.V[at] {
			return "by"
		}
		gone := new(big.Int).Sub(big.NewInt(e.Time), big.NewInt(first.Time))
		if timed && (!gone.IsInt64() || gone.Cmp(big.NewInt(p.Within)) > 0) {
			return "near"
		}
	}
	if len(preds) > 0 && !value.Holds(preds[0], append(binds(p, r), value.Bind{Var: v, Fields: p.Schema[kind].Fields, V: e.V})) {
		return "pred"
	}
	return ""
}

// refuse: why a run is not matched by an event; nothing, if it is.
func refuse(p step.Plan, r step.Run, e wire.Event) string {
	if why := wrong(p, r); why != "" {
		return "run " + why
	}
	if r.At == len(p.Paths[r.Path]) {
		return "done"
	}
	s := p.Paths[r.Path][r.At]
	return deny(p, r, e, s.Kind, s.Var, s.Pred, true)
}

// pass: why a run is not guarded by an event; nothing, if it is.
func pass(p step.Plan, r step.Run, e wire.Event) string {
	if why := wrong(p, r); why != "" {
		return "run " + why
	}
	if r.At == len(p.Paths[r.Path]) {
		return "done"
	}
	if r.At == 0 {
		return "nothing"
	}
	why := "none"
	for _, g := range p.Paths[r.Path][r.At].Guards {
		if why = deny(p, r, e, g.Kind, g.Var, g.Pred, false); why == "" {
			return ""
		}
	}
	return why
}

// predicates: what the plans that look like chance ask.
func predicates(t *testing.T) (told []expr.Expr) {
	t.Helper()
	for _, text := range []string{"a.x == b.x", "a.x == 1", "b.x < a.y", "a.y != b.y", "c.x == a.x || c.x == b.x", "!(a.x == 0)", "1 / b.x == 1", "a.k == c.y", "1 == 1", "a.x + b.y == c.x"} {
		x, _, e := parse.Expr(text)
		if e != api.OK {
			t.Fatalf("Expr(%q): %d", text, e)
		}
		told = append(told, x)
	}
	return told
}

// plan: of three kinds, of few fields, and paths of up to 4 steps, of kinds that there may not be.
func (s *seq) plan(asks []expr.Expr) step.Plan {
	p := step.Plan{By: pick(s, "", "", "k", "x", "y"), Within: pick[int64](s, 0, 1, 2, 5, -1, most)}
	for range s.mostly(3, 4) {
		p.Schema = append(p.Schema, schema.Kind{Name: pick(s, "A", "B"), Fields: slices.Clone(pick(s, []string{"k", "x"}, []string{"x", "k"}, []string{"x", "y", "k"}, []string{"y", "x"}, []string{"k", "k"}, nil))})
	}
	some := func() []expr.Expr {
		if s.below(3) > 0 {
			return nil
		}
		return []expr.Expr{pick(s, asks...)}
	}
	for range s.mostly(2, 3) {
		var one []path.Step
		for range s.mostly(1+s.below(4), 5) {
			next := path.Step{Kind: s.kind(), Var: pick(s, "a", "b", "c"), Pred: some()}
			for range s.below(3) {
				next.Guards = append(next.Guards, path.Guard{Kind: s.kind(), Var: pick(s, "a", "b", "c"), Pred: some()})
			}
			one = append(one, next)
		}
		p.Paths = append(p.Paths, one)
	}
	return p
}

// event: of a kind, that mostly fits.
func (s *seq) event(p step.Plan, kind int) wire.Event {
	e := wire.Event{Kind: kind, Time: int64(s.below(7))}
	if s.below(12) == 0 {
		e.Time = pick[int64](s, least, most, least+1, most-1)
	}
	n := s.below(3)
	if kind >= 0 && kind < len(p.Schema) && s.below(20) > 0 {
		n = len(p.Schema[kind].Fields)
	}
	for range n {
		e.V = append(e.V, int64(s.below(3)))
	}
	return e
}

// wanted: an event that is mostly of the kind that the run's step, or a guard of it, is of.
func (s *seq) wanted(p step.Plan, r step.Run) wire.Event {
	if wrong(p, r) != "" || r.At == len(p.Paths[r.Path]) || s.below(4) == 0 {
		return s.event(p, s.kind())
	}
	one := p.Paths[r.Path][r.At]
	if len(one.Guards) > 0 && s.below(2) == 0 {
		return s.event(p, pick(s, one.Guards...).Kind)
	}
	return s.event(p, one.Kind)
}

// run: one that is mostly right.
func (s *seq) run(p step.Plan) (r step.Run) {
	if len(p.Paths) > 0 {
		r.Path = s.below(len(p.Paths))
		r.At = s.below(len(p.Paths[r.Path]) + 1)
	}
	last := -2
	for at := range r.At {
		last += 1 + s.below(3)
		r.Tuple, r.Events = append(r.Tuple, last), append(r.Events, s.event(p, p.Paths[r.Path][at].Kind))
	}
	switch s.below(20) {
	case 0:
		r.Path += pick(s, -1, 1, 3, -3)
	case 1:
		r.At += pick(s, -1, 1, 3, -3)
	case 2:
		r.Tuple = append(r.Tuple, 99)
	case 3:
		r.Events = append(r.Events, s.event(p, 0))
	case 4:
		slices.Reverse(r.Tuple)
	case 5:
		if r.At > 1 {
			r.Tuple[r.At-1] = r.Tuple[r.At-2]
		}
	case 6:
		if r.At > 0 {
			r.Events[s.below(r.At)] = s.event(p, s.kind())
		}
	}
	return r
}

// alike: are there as many, and are all fields the same, one by one?
func alike(a, b []value.Bind) bool {
	return slices.EqualFunc(a, b, func(x, y value.Bind) bool {
		return x.Var == y.Var && slices.Equal(x.Fields, y.Fields) && slices.Equal(x.V, y.V)
	})
}

// ask holds all that is told of a run, and an event, against the chapter's words, and tells why what is not, is not.
func ask(t *testing.T, p step.Plan, r step.Run, e wire.Event) (match, guard string) {
	t.Helper()
	why, match, guard := wrong(p, r), refuse(p, r, e), pass(p, r, e)
	if got := step.Right(p, r); got != (why == "") {
		t.Fatalf("%+v: Right(%+v) = %v; %q", p, r, got, why)
	}
	if got := step.Done(p, r); got != (why == "" && r.At == len(p.Paths[r.Path])) {
		t.Fatalf("%+v: Done(%+v) = %v", p, r, got)
	}
	var want []value.Bind
	if why == "" {
		want = binds(p, r)
	}
	if got := step.Binds(p, r); !alike(got, want) {
		t.Fatalf("%+v: Binds(%+v) = %v; want %v", p, r, got, want)
	}
	if got := step.Matches(p, r, e); got != (match == "") {
		t.Fatalf("%+v: Matches(%+v, %v) = %v; %q", p, r, e, got, match)
	}
	if got := step.Guarded(p, r, e); got != (guard == "") {
		t.Fatalf("%+v: Guarded(%+v, %v) = %v; %q", p, r, e, got, guard)
	}
	return match, guard
}

// P15.1, P15.2, P15.4: runs and events that look like chance, held against the chapter's words; each thing that may be
// against them comes, often.
func TestChance(t *testing.T) {
	s := seq(15)
	asks := predicates(t)
	matches, guards := map[string]int{}, map[string]int{}
	for range 60000 {
		p := s.plan(asks)
		r := s.run(p)
		e := s.wanted(p, r)
		match, guard := ask(t, p, r, e)
		matches[match]++
		guards[guard]++
		if match == "" {
			extendedIsRight(t, p, r, e)
		}
	}
	for _, why := range []string{"", "fit", "kind", "field", "by", "near", "pred", "done", "run Path", "run At", "run count", "run order", "run fit", "run kind", "run field"} {
		if matches[why] < 100 {
			t.Errorf("%q came %d times: %v", why, matches[why], matches)
		}
		if why != "near" && guards[why] < 100 {
			t.Errorf("%q came %d times: %v", why, guards[why], guards)
		}
	}
	if guards["nothing"] < 100 || guards["none"] < 100 {
		t.Errorf("%v", guards)
	}
}

// extendedIsRight: what matches is right behind any index that rises.
func extendedIsRight(t *testing.T, p step.Plan, r step.Run, e wire.Event) {
	t.Helper()
	last := -3
	if r.At > 0 {
		last = r.Tuple[r.At-1]
	}
	for _, index := range []int{last + 1, last + 2, 1 << 62} {
		to := step.Extend(p, r, e, index)
		if want := (step.Run{Path: r.Path, At: r.At + 1, Tuple: append(slices.Clone(r.Tuple), index), Events: append(slices.Clone(r.Events), e)}); !step.Right(p, to) || !same(to, want) {
			t.Fatalf("%+v: %+v matches %v, and is extended to %+v", p, r, e, to)
		}
	}
	// One that does not rise is what was handed in.
	if r.At > 0 && step.Right(p, step.Extend(p, r, e, last)) {
		t.Fatalf("%+v: %+v is right behind %d again", p, r, last)
	}
}

// P15.1: all small runs of small parts.
func TestAllSmallRuns(t *testing.T) {
	p := planned(t, "(A a ; B b | A c) WITHIN 5 BY k")
	var tuples [][]int
	var lists [][]wire.Event
	indexes, some := []int{-1, 0, 1}, read(t, "A1:0,1 A1:0 B1:0,1 B1:0,1,2 D1:0 E1:0 Z1:0,1")
	for n := range 4 {
		tuples = append(tuples, lengths(indexes, n)...)
		lists = append(lists, lengths(some, n)...)
	}
	right := 0
	for _, n := range []int{-1, 0, 1, 2} {
		for at := -1; at < 4; at++ {
			for _, tuple := range tuples {
				for _, l := range lists {
					r := step.Run{Path: n, At: at, Tuple: tuple, Events: l}
					want := wrong(p, r) == ""
					if got := step.Right(p, r); got != want {
						t.Fatalf("Right(%+v) = %v", r, got)
					}
					if want {
						right++
					}
				}
			}
		}
	}
	// Of nothing, by two paths; A, by two paths, of three indexes; A and B, of three twos of them that rise.
	if right != 2+2*3+3 {
		t.Errorf("%d are right", right)
	}
}

// lengths: all lists of so many of l.
func lengths[T any](l []T, n int) [][]T {
	told := [][]T{nil}
	for range n {
		var longer [][]T
		for _, one := range told {
			for _, x := range l {
				longer = append(longer, append(slices.Clone(one), x))
			}
		}
		told = longer
	}
	return told
}

// P15.4: what has expired at a time, from its first event's on, matches nothing then, or later.
func TestExpiredMatchesNothing(t *testing.T) {
	ends := []int64{least, least + 1, least + 5, least + 6, -7, -6, -5, -1, 0, 1, 4, 5, 6, 7, most - 6, most - 5, most - 1, most}
	for _, within := range []int64{0, 1, 5, 1000000000, most, -1, least} {
		p := planned(t, "A a ; B b WITHIN 5")
		p.Within = within
		for _, first := range ends {
			r := step.Extend(p, step.Run{}, wire.Event{Time: first, V: []int64{0, 0}}, 0)
			gone := false
			for _, now := range ends {
				if now < first {
					continue
				}
				gone = gone || step.Expired(p, r, now)
				if match := step.Matches(p, r, wire.Event{Kind: 1, Time: now, V: []int64{0, 0}}); gone && match || gone != step.Expired(p, r, now) {
					t.Errorf("first %d, within %d: at %d Matches %v, Expired %v", first, within, now, match, step.Expired(p, r, now))
				}
			}
		}
	}
}

// P15.2, P15.3: runs that are gone on with by these calls alone come to what the query means (chapter 13).
func TestTogether(t *testing.T) {
	s := seq(4)
	for _, items := range []string{"A a", "A a ; B b", "A a{1,3}", "A a ; !B b ; A c", "A a ; !C c[c.x == a.x] ; B b[b.y >= a.x]", "(A a | B b) ; !D d ; (A c | C d ; B e)", "A a ; !A b ; !B c[c.y == 1] ; C d ; !C e ; A a[a.x != 0]", "A a{1,2}[a.x > 0] ; !D d[d.k == a.k] ; (B a | C a) ; A b[b.x == a.k]"} {
		for _, tail := range []string{" WITHIN 3", " WITHIN 0", " WITHIN 30 BY k"} {
			for range 30 {
				p := planned(t, items+tail)
				q, _, _ := parse.Parse(items + tail)
				var l []wire.Event
				for at := range 12 {
					e := s.event(p, s.below(5)-s.below(2)*s.below(2)*s.below(2))
					e.Time = int64(at / 2)
					l = append(l, e)
				}
				want, e := means.M(p.Schema, q, l)
				if got := gather(p, l); e != api.OK || fmt.Sprint(got) != fmt.Sprint(want) {
					t.Fatalf("%q of %v: %v; want %v, %d", items+tail, l, got, want, e)
				}
			}
		}
	}
}

// gather: what a plan comes to, of events in the order of time.
func gather(p step.Plan, l []wire.Event) (told [][]int) {
	var runs []step.Run
	for index, e := range l {
		var kept []step.Run
		asked := runs
		for n := range p.Paths {
			asked = append(asked, step.Run{Path: n})
		}
		var longer []step.Run
		for _, r := range asked {
			if step.Expired(p, r, e.Time) {
				continue
			}
			if step.Matches(p, r, e) {
				longer = append(longer, step.Extend(p, r, e, index))
			}
			if r.At > 0 && !step.Guarded(p, r, e) {
				kept = append(kept, r)
			}
		}
		runs = append(kept, longer...)
		for _, r := range longer {
			if step.Done(p, r) {
				told = append(told, r.Tuple)
			}
		}
	}
	return means.Sort(told)
}

// P1: at long and deep arguments every call ends.
func TestLong(t *testing.T) {
	const long = 200000
	steps := make([]path.Step, long+1)
	r := step.Run{At: long}
	for at := range long {
		steps[at].Var = "a"
		r.Tuple, r.Events = append(r.Tuple, at), append(r.Events, wire.Event{Kind: 0, Time: 1, V: []int64{int64(at)}})
	}
	deep := expr.Expr{Kind: expr.Binary, Op: "==", Kids: []expr.Expr{{Kind: expr.Ref, Var: "a", Field: "x"}, {Kind: expr.Num, N: 3}}}
	for range 99997 {
		deep = expr.Expr{Kind: expr.Unary, Op: "!", Kids: []expr.Expr{deep}}
	}
	steps[long] = path.Step{Var: "b", Pred: []expr.Expr{deep}, Guards: slices.Repeat([]path.Guard{{Kind: 1}}, long)}
	steps[long].Guards[long-1] = path.Guard{Kind: 0, Var: "a", Pred: []expr.Expr{deep}}
	p := step.Plan{Schema: []schema.Kind{{Fields: []string{"x"}}}, Paths: [][]path.Step{steps}}
	e := wire.Event{Time: 1, V: []int64{4}}
	// An odd number of ! ahead of a.x == 3: true of the last event of the run, and of what comes as a.
	if !step.Right(p, r) || step.Done(p, r) || len(step.Binds(p, r)) != long || !step.Matches(p, r, e) || !step.Guarded(p, r, e) || step.Expired(p, r, 1) {
		t.Error("long")
	}
	to := step.Extend(p, r, e, long)
	if !step.Done(p, to) || !step.Right(p, to) || step.Matches(p, to, e) || len(step.Binds(p, to)) != long+1 {
		t.Error("longer")
	}
	r.Tuple[long-1] = r.Tuple[long-2]
	if step.Right(p, r) {
		t.Error("long, and not rising")
	}
}

// roomy: a plan, a run and an event that have room behind all their lists, full of something else.
func roomy() (step.Plan, step.Run, wire.Event) {
	x, _, _ := parse.Expr("a.x < b.y && c.y == c.y")
	s := []schema.Kind{{Name: "A", Fields: append(make([]string, 0, 5), "k", "x")}, {Name: "B", Fields: append(make([]string, 0, 5), "y", "k")}, {Name: "C", Fields: append(make([]string, 0, 5), "x", "y", "k")}, {Name: "more"}}
	one := []path.Step{{Kind: 0, Var: "a"}, {Kind: 1, Var: "b"}, {Kind: 2, Var: "c", Pred: []expr.Expr{x, {}}[:1], Guards: []path.Guard{{Kind: 2, Var: "c", Pred: []expr.Expr{x, {}}[:1]}, {Kind: 77}}[:1]}, {Kind: 77}}
	p := step.Plan{Schema: s[:3], Paths: [][]path.Step{one[:3], nil}[:1], Within: 5, By: "k"}
	r := step.Run{At: 2, Tuple: []int{0, 1, 77, 78}[:2], Events: []wire.Event{{Kind: 0, Time: 1, V: []int64{7, 1, 77}[:2]}, {Kind: 1, Time: 2, V: []int64{2, 7, 77}[:2]}, {Kind: 77}, {Kind: 78}}[:2]}
	return p, r, wire.Event{Kind: 2, Time: 3, V: []int64{3, 4, 7, 77}[:3]}
}

// full: all there is, with what stands behind each list in its array.
func full(p step.Plan, r step.Run, e wire.Event) string {
	var b []any
	b = append(b, p.Schema[:cap(p.Schema)], p.Paths[:cap(p.Paths)], p.Within, p.By, r.Path, r.At, r.Tuple[:cap(r.Tuple)], r.Events[:cap(r.Events)], e.V[:cap(e.V)], e)
	for _, k := range p.Schema {
		b = append(b, k.Fields[:cap(k.Fields)])
	}
	for _, s := range p.Paths[0][:cap(p.Paths[0])] {
		b = append(b, s, s.Pred[:cap(s.Pred)], s.Guards[:cap(s.Guards)])
		for _, g := range s.Guards {
			b = append(b, g.Pred[:cap(g.Pred)])
		}
	}
	for _, one := range r.Events {
		b = append(b, one.V[:cap(one.V)])
	}
	return fmt.Sprintf("%+v", b)
}

// every call, of these.
func every(p step.Plan, r step.Run, e wire.Event) (told []any) {
	to := step.Extend(p, r, e, 2)
	return []any{step.Right(p, r), step.Matches(p, r, e), step.Guarded(p, r, e), step.Expired(p, r, 6), step.Expired(p, r, 7), to, step.Done(p, r), step.Done(p, to), step.Binds(p, r), step.Binds(p, to)}
}

// P3, P4: nothing that is handed in is written into, nor what stands behind it; told again all is the same.
func TestNothingIsWritten(t *testing.T) {
	p, r, e := roomy()
	before := full(p, r, e)
	first := every(p, r, e)
	for range 3 {
		if again := every(p, r, e); !reflect.DeepEqual(first, again) {
			t.Errorf("told again: %v; first %v", again, first)
		}
	}
	if first[0] != true || first[1] != true || first[2] != true || first[3] != false || first[4] != true || first[6] != false || first[7] != true {
		t.Errorf("told: %v", first)
	}
	if after := full(p, r, e); after != before {
		t.Errorf("written into: %s; was %s", after, before)
	}
}

// P3: what is told is new, room and all: who writes into it turns nothing that was handed in, nor another part of it.
func TestAnswersAreNew(t *testing.T) {
	p, r, e := roomy()
	before := full(p, r, e)
	one, two, three := step.Extend(p, r, e, 2), step.Extend(p, r, e, 2), step.Extend(p, step.Run{Path: 3}, e, 2)
	l, other := step.Binds(p, r), step.Binds(p, r)
	for _, to := range []step.Run{one, three} {
		scrawl(to.Tuple, 55)
		for at := range to.Events {
			scrawl(to.Events[at].V, 55)
		}
		scrawl(to.Events, wire.Event{Kind: 55})
	}
	for at := range l {
		scrawl(l[at].Fields, "z")
		scrawl(l[at].V, 55)
	}
	scrawl(l, value.Bind{Var: "z"})
	if after := full(p, r, e); after != before {
		t.Errorf("written into: %s; was %s", after, before)
	}
	if want := append(slices.Clone(r.Events), e); !slices.EqualFunc(two.Events, want, wire.Same) || !slices.Equal(two.Tuple, []int{0, 1, 2}) {
		t.Errorf("the other one is %+v", two)
	}
	if got := show(other); got != "a k=7 x=1; b y=2 k=7" {
		t.Errorf("the other ones are %q", got)
	}
	// Nor do two lists of one answer share any.
	same := step.Plan{Schema: kinds(), Paths: [][]path.Step{{{Kind: 0, Var: "a"}, {Kind: 0, Var: "b"}}}}
	v := []int64{1, 2}
	twice := step.Extend(same, step.Extend(same, step.Run{}, wire.Event{V: v}, 0), wire.Event{V: v}, 1)
	both := step.Binds(same, step.Run{At: 2, Tuple: []int{0, 1}, Events: []wire.Event{{V: v}, {V: v}}})
	scrawl(twice.Events[0].V, 55)
	scrawl(both[0].V, 55)
	scrawl(both[0].Fields, "z")
	if !slices.Equal(twice.Events[1].V, v) || show(both[1:]) != "b k=1 x=2" {
		t.Errorf("shared: %+v, %v", twice, both)
	}
}

// scrawl over a list, and over the room behind it.
func scrawl[T any](l []T, x T) {
	l = l[:cap(l)]
	for at := range l {
		l[at] = x
	}
}

// P3: what is extended keeps nothing of the run that it was: each goes on by itself.
func TestExtendKeepsNothing(t *testing.T) {
	p, r, e := roomy()
	one := step.Extend(p, r, e, 2)
	again := step.Extend(p, r, wire.Event{Kind: 2, Time: 4, V: []int64{5, 6, 7}}, 3)
	for _, l := range [][]int64{r.Events[0].V, r.Events[1].V, e.V} {
		scrawl(l, 55)
	}
	scrawl(r.Tuple, 55)
	scrawl(r.Events, wire.Event{Kind: 55})
	if got := show(step.Binds(p, one)); got != "a k=7 x=1; b y=2 k=7; c x=3 y=4 k=7" || !slices.Equal(one.Tuple, []int{0, 1, 2}) {
		t.Errorf("one: %q, %v", got, one.Tuple)
	}
	if got := show(step.Binds(p, again)); got != "a k=7 x=1; b y=2 k=7; c x=5 y=6 k=7" || !slices.Equal(again.Tuple, []int{0, 1, 3}) {
		t.Errorf("again: %q, %v", got, again.Tuple)
	}
}

// P5: a list of nothing may be nil or empty.
func TestNilOrEmpty(t *testing.T) {
	for _, c := range []struct {
		s []schema.Kind
		k []string
		p [][]path.Step
		g []path.Guard
		x []expr.Expr
		t []int
		l []wire.Event
		v []int64
	}{{}, {s: []schema.Kind{}, k: []string{}, p: [][]path.Step{}, g: []path.Guard{}, x: []expr.Expr{}, t: []int{}, l: []wire.Event{}, v: []int64{}}} {
		r := step.Run{Tuple: c.t, Events: c.l}
		e := wire.Event{V: c.v}
		if p := (step.Plan{Schema: c.s, Paths: c.p}); step.Right(p, r) || step.Matches(p, r, e) || step.Guarded(p, r, e) || step.Expired(p, r, 1) || step.Done(p, r) || len(step.Binds(p, r)) != 0 {
			t.Errorf("of no paths: %+v", r)
		}
		if p := (step.Plan{Schema: c.s, Paths: [][]path.Step{{{}}}}); !step.Right(p, r) || step.Matches(p, r, e) || step.Done(p, r) {
			t.Errorf("of no kinds: %+v", r)
		}
		p := step.Plan{Schema: []schema.Kind{{Fields: c.k}}, Paths: [][]path.Step{{{Pred: c.x}, {Pred: c.x, Guards: c.g}, {Guards: []path.Guard{{Pred: c.x}}}}}}
		one := step.Extend(p, r, e, 0)
		two := step.Extend(p, one, e, 1)
		if !step.Matches(p, r, e) || !step.Matches(p, one, e) || step.Guarded(p, one, e) || !step.Guarded(p, two, e) || len(step.Binds(p, r)) != 0 || len(step.Binds(p, two)) != 2 || len(step.Binds(p, two)[1].V) != 0 {
			t.Errorf("of empty lists: %+v, %+v", one, two)
		}
	}
}
