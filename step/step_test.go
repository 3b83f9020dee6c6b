package step_test

import (
	"fmt"
	"math"
	"slices"
	"strings"
	"testing"

	"jettison/api"
	"jettison/expr"
	"jettison/parse"
	"jettison/path"
	"jettison/schema"
	"jettison/step"
	"jettison/value"
	"jettison/wire"
)

const least, most = math.MinInt64, math.MaxInt64

// kinds: what the plans of the tests are of. All but E have k, though not in one place.
func kinds() []schema.Kind {
	return []schema.Kind{{Name: "A", Fields: []string{"k", "x"}}, {Name: "B", Fields: []string{"y", "k"}}, {Name: "C", Fields: []string{"x", "y", "k"}}, {Name: "D", Fields: []string{"k"}}, {Name: "E", Fields: []string{"z"}}}
}

// planned: the plan of a query that may be.
func planned(t *testing.T, text string) step.Plan {
	t.Helper()
	q, at, e := parse.Parse(text)
	if e != api.OK {
		t.Fatalf("Parse(%q): %d at %d", text, e, at)
	}
	l, e := path.Of(kinds(), q)
	if e != api.OK {
		t.Fatalf("Of(%q): %d", text, e)
	}
	return step.Plan{Schema: kinds(), Paths: l, Within: q.Within, By: q.By}
}

// read: events in words: a kind, its time, and, behind a :, its numbers with , between. What is no kind's name is a
// number that is none's.
func read(t *testing.T, text string) (told []wire.Event) {
	t.Helper()
	for _, word := range strings.Fields(text) {
		head, numbers, _ := strings.Cut(word, ":")
		e := wire.Event{Kind: strings.Index("ABCDE", head[:1])}
		if n, err := fmt.Sscan(head[1:], &e.Time); n != 1 {
			t.Fatalf("%q: %v", word, err)
		}
		for _, digits := range strings.FieldsFunc(numbers, func(r rune) bool { return r == ',' }) {
			var n int64
			if _, err := fmt.Sscan(digits, &n); err != nil {
				t.Fatalf("%q: %v", word, err)
			}
			e.V = append(e.V, n)
		}
		told = append(told, e)
	}
	return told
}

// run: of the first path, of events in words, which came with one between each two.
func run(t *testing.T, text string) step.Run {
	t.Helper()
	l := read(t, text)
	r := step.Run{At: len(l), Events: l}
	for at := range l {
		r.Tuple = append(r.Tuple, 2*at)
	}
	return r
}

// show: Binds in words, a k=7 x=1; b y=2.
func show(l []value.Bind) string {
	var told []string
	for _, b := range l {
		words := []string{b.Var}
		for at, f := range b.Fields {
			words = append(words, fmt.Sprint(f, "=", b.V[at]))
		}
		told = append(told, strings.Join(words, " "))
	}
	return strings.Join(told, "; ")
}

// wholly: a run that is not right is nothing at all: nothing is asked of it, or told.
func wholly(t *testing.T, p step.Plan, r step.Run, right bool) {
	t.Helper()
	if got := step.Right(p, r); got != right {
		t.Errorf("Right(%+v) = %v; want %v", r, got, right)
	}
	if right {
		if l := step.Binds(p, r); len(l) != r.At {
			t.Errorf("Binds(%+v) = %v", r, l)
		}
		return
	}
	if step.Done(p, r) || step.Binds(p, r) != nil {
		t.Errorf("%+v: Done %v, Binds %v", r, step.Done(p, r), step.Binds(p, r))
	}
	for kind, k := range p.Schema {
		e := wire.Event{Kind: kind, V: make([]int64, len(k.Fields))}
		if step.Matches(p, r, e) || step.Guarded(p, r, e) {
			t.Errorf("%+v, of %v: Matches %v, Guarded %v", r, e, step.Matches(p, r, e), step.Guarded(p, r, e))
		}
	}
}

// P15.1: what is right, and what is not, written out.
func TestRight(t *testing.T) {
	for _, by := range []string{"", " BY k"} {
		p := planned(t, "A a ; !C g ; (B b ; !C g ; C c | C d) WITHIN 5"+by)
		a, b, c := read(t, "A1:0,1")[0], read(t, "B2:1,0")[0], read(t, "C3:1,2,0")[0]
		for _, r := range []step.Run{
			{}, {Tuple: []int{}, Events: []wire.Event{}}, {Path: 1},
			{At: 1, Tuple: []int{0}, Events: []wire.Event{a}}, {Path: 1, At: 1, Tuple: []int{7}, Events: []wire.Event{a}},
			{At: 2, Tuple: []int{0, 1}, Events: []wire.Event{a, b}}, {Path: 1, At: 2, Tuple: []int{0, 1}, Events: []wire.Event{a, c}},
			{At: 3, Tuple: []int{0, 1, 2}, Events: []wire.Event{a, b, c}},
			// All that is asked of a Tuple is that it rises.
			{At: 1, Tuple: []int{-1}, Events: []wire.Event{a}}, {At: 1, Tuple: []int{math.MinInt}, Events: []wire.Event{a}}, {At: 1, Tuple: []int{math.MaxInt}, Events: []wire.Event{a}},
			{At: 2, Tuple: []int{math.MinInt, math.MaxInt}, Events: []wire.Event{a, b}}, {At: 3, Tuple: []int{-2, -1, 1000000}, Events: []wire.Event{a, b, c}},
			// Nor are events asked for their times, or their partitions, here.
			{At: 2, Tuple: []int{0, 1}, Events: []wire.Event{{Kind: 0, Time: least, V: []int64{1, 1}}, {Kind: 1, Time: most, V: []int64{2, 2}}}},
			{At: 2, Tuple: []int{0, 1}, Events: []wire.Event{{Kind: 0, Time: most, V: []int64{1, 1}}, {Kind: 1, Time: least, V: []int64{2, 2}}}},
		} {
			wholly(t, p, r, true)
		}
		for _, r := range []step.Run{
			// A Path that is none.
			{Path: -1}, {Path: 2}, {Path: math.MinInt}, {Path: math.MaxInt}, {Path: 2, At: 1, Tuple: []int{0}, Events: []wire.Event{a}},
			// An At below 0, or above how many steps there are.
			{At: -1}, {At: math.MinInt}, {At: math.MaxInt}, {At: 4, Tuple: []int{0, 1, 2, 3}, Events: []wire.Event{a, b, c, c}}, {Path: 1, At: 3, Tuple: []int{0, 1, 2}, Events: []wire.Event{a, c, c}},
			// Too few, or too many, of Tuple, or of Events.
			{At: 1}, {Tuple: []int{0}}, {Events: []wire.Event{a}}, {Tuple: []int{0}, Events: []wire.Event{a}}, {At: 1, Tuple: []int{0}}, {At: 1, Events: []wire.Event{a}},
			{At: 1, Tuple: []int{0, 1}, Events: []wire.Event{a}}, {At: 1, Tuple: []int{0}, Events: []wire.Event{a, b}}, {At: 1, Tuple: []int{0, 1}, Events: []wire.Event{a, b}},
			{At: 2, Tuple: []int{0}, Events: []wire.Event{a, b}}, {At: 2, Tuple: []int{0, 1}, Events: []wire.Event{a}}, {At: 2, Tuple: []int{0}, Events: []wire.Event{a}}, {At: 3, Tuple: []int{0, 1, 2}, Events: []wire.Event{a, b, c, c}}, {At: 3, Tuple: []int{0, 1, 2, 3}, Events: []wire.Event{a, b, c}},
			// A Tuple that does not rise.
			{At: 2, Tuple: []int{0, 0}, Events: []wire.Event{a, b}}, {At: 2, Tuple: []int{1, 0}, Events: []wire.Event{a, b}}, {At: 2, Tuple: []int{math.MaxInt, math.MinInt}, Events: []wire.Event{a, b}},
			{At: 3, Tuple: []int{0, 1, 1}, Events: []wire.Event{a, b, c}}, {At: 3, Tuple: []int{1, 1, 2}, Events: []wire.Event{a, b, c}}, {At: 3, Tuple: []int{0, 2, 1}, Events: []wire.Event{a, b, c}}, {At: 3, Tuple: []int{3, 1, 2}, Events: []wire.Event{a, b, c}},
			// Events of another kind, in whichever place.
			{At: 1, Tuple: []int{0}, Events: []wire.Event{b}}, {At: 2, Tuple: []int{0, 1}, Events: []wire.Event{a, a}}, {At: 2, Tuple: []int{0, 1}, Events: []wire.Event{b, a}}, {At: 2, Tuple: []int{0, 1}, Events: []wire.Event{b, b}}, {At: 2, Tuple: []int{0, 1}, Events: []wire.Event{a, c}}, {Path: 1, At: 2, Tuple: []int{0, 1}, Events: []wire.Event{a, b}},
			{At: 3, Tuple: []int{0, 1, 2}, Events: []wire.Event{a, b, b}}, {At: 3, Tuple: []int{0, 1, 2}, Events: []wire.Event{b, b, c}}, {At: 3, Tuple: []int{0, 1, 2}, Events: []wire.Event{a, c, c}},
		} {
			wholly(t, p, r, false)
		}
		// Events that do not fit, in whichever place.
		for at, good := range []wire.Event{a, b, c} {
			for _, wrong := range misfits(good) {
				r := step.Run{At: 3, Tuple: []int{0, 1, 2}, Events: []wire.Event{a, b, c}}
				r.Events[at] = wrong
				wholly(t, p, r, false)
			}
		}
	}
}

// misfits: e, of kinds that there are not, and with too few or too many V.
func misfits(e wire.Event) (told []wire.Event) {
	for _, kind := range []int{-1, 5, 6, 255, 1 << 32, -1 << 32, math.MinInt, math.MaxInt} {
		told = append(told, wire.Event{Kind: kind, Time: e.Time, V: e.V})
	}
	for n := range 12 {
		if n != len(e.V) {
			told = append(told, wire.Event{Kind: e.Kind, Time: e.Time, V: make([]int64, n)})
		}
	}
	return append(told, wire.Event{Kind: e.Kind, Time: e.Time}, wire.Event{Kind: e.Kind, Time: e.Time, V: make([]int64, 100000)})
}

// P15.1: By asks each kind that came, and no other one.
func TestRightBy(t *testing.T) {
	p := planned(t, "A a ; E e ; A b WITHIN 5")
	a, whole := run(t, "A1:0,1"), run(t, "A1:0,1 E2:3 A3:0,1")
	for by, want := range map[string][4]bool{"": {true, true, true, true}, "k": {true, true, false, false}, "x": {true, true, false, false}, "z": {true, false, false, false}, "y": {true, false, false, false}, "K": {true, false, false, false}, "0": {true, false, false, false}, "A": {true, false, false, false}} {
		p.By = by
		for n := range 4 {
			r := step.Run{At: n, Tuple: whole.Tuple[:n], Events: whole.Events[:n]}
			wholly(t, p, r, want[n])
			if step.Done(p, r) != (n == 3 && want[3]) {
				t.Errorf("BY %q, at %d: Done %v", by, n, step.Done(p, r))
			}
		}
		// What a kind has not is asked of what comes, too.
		if step.Matches(p, step.Run{}, a.Events[0]) != want[1] || step.Matches(p, a, read(t, "E2:0")[0]) != want[2] {
			t.Errorf("BY %q: Matches", by)
		}
	}
}

// P15.1: a schema that is not right is asked no more than a kind's number of Fields, and the first one that is By.
func TestRightSchemas(t *testing.T) {
	one := [][]path.Step{{{Kind: 0, Var: "a"}, {Kind: 1, Var: "b"}}}
	many := make([]schema.Kind, 20)
	wide := schema.Kind{Name: "A", Fields: strings.Split("a,b,c,d,e,f,g,h,i,j", ",")}
	for at, c := range []struct {
		s     []schema.Kind
		by    string
		a, b  int
		right int
	}{
		{nil, "", 0, 0, 0}, {[]schema.Kind{}, "", 0, 0, 0}, {[]schema.Kind{{}}, "", 0, 0, 1}, {[]schema.Kind{{}, {}}, "", 0, 0, 2}, {[]schema.Kind{{}, {}}, "x", 0, 0, 0}, {many, "", 0, 0, 2}, {many, "", 0, 1, 1},
		{[]schema.Kind{wide, wide}, "", 10, 10, 2}, {[]schema.Kind{wide, wide}, "j", 10, 10, 2}, {[]schema.Kind{wide, wide}, "k", 10, 10, 0}, {[]schema.Kind{wide, wide}, "", 10, 9, 1},
		{[]schema.Kind{{Name: "9", Fields: []string{"", "BY"}}, {Name: "9", Fields: []string{"BY"}}}, "BY", 2, 1, 2}, {[]schema.Kind{{Name: "A", Fields: []string{"x", "x"}}, {Name: "A", Fields: []string{"y", "x", "x"}}}, "x", 2, 3, 2},
	} {
		p := step.Plan{Schema: c.s, Paths: one, Within: 5, By: c.by}
		r := step.Run{At: 2, Tuple: []int{0, 1}, Events: []wire.Event{{Kind: 0, V: make([]int64, c.a)}, {Kind: 1, V: make([]int64, c.b)}}}
		for n := range 3 {
			cut := step.Run{At: n, Tuple: r.Tuple[:n], Events: r.Events[:n]}
			wholly(t, p, cut, n <= c.right)
			if n < 2 && step.Matches(p, cut, r.Events[n]) != (n < c.right) {
				t.Errorf("%d: at %d Matches is %v", at, n, n >= c.right)
			}
		}
	}
	// Of two fields of one name the first is the partition.
	p := step.Plan{Schema: []schema.Kind{{Name: "A", Fields: []string{"x", "x"}}, {Name: "A", Fields: []string{"y", "x", "x"}}}, Paths: one, By: "x"}
	r := step.Run{At: 1, Tuple: []int{0}, Events: []wire.Event{{V: []int64{7, 8}}}}
	if !step.Matches(p, r, wire.Event{Kind: 1, V: []int64{8, 7, 9}}) || step.Matches(p, r, wire.Event{Kind: 1, V: []int64{8, 8, 7}}) {
		t.Error("of two fields of one name")
	}
}

// P15.1: paths that there may be though no query has them.
func TestRightPlans(t *testing.T) {
	for _, p := range []step.Plan{{}, {Schema: kinds()}, {Paths: [][]path.Step{}}, {Paths: [][]path.Step{}, Within: least, By: "k"}} {
		for _, r := range []step.Run{{}, {Path: 1}, {Path: -1}, {At: 1}, run(t, "A1:0,1")} {
			wholly(t, p, r, false)
		}
	}
	// A path of no steps is done where it begins.
	p := step.Plan{Schema: kinds(), Paths: [][]path.Step{{}, nil, {{Kind: 0}}}}
	for _, n := range []int{0, 1} {
		r := step.Run{Path: n}
		wholly(t, p, r, true)
		if !step.Done(p, r) || step.Matches(p, r, read(t, "A1:0,1")[0]) || step.Guarded(p, r, read(t, "A1:0,1")[0]) {
			t.Errorf("path %d, of no steps: Done %v", n, step.Done(p, r))
		}
	}
	if step.Done(p, step.Run{Path: 2}) {
		t.Error("path 2 is done where it begins")
	}
	// Steps and guards of kinds that there are not wait for ever.
	for _, kind := range []int{-1, 5, math.MinInt, math.MaxInt} {
		p := step.Plan{Schema: kinds(), Paths: [][]path.Step{{{Kind: kind}}, {{Kind: 0}, {Kind: kind, Guards: []path.Guard{{Kind: kind}}}}}}
		begun := run(t, "A1:0,1")
		begun.Path = 1
		wholly(t, p, step.Run{}, true)
		wholly(t, p, begun, true)
		for _, e := range append(read(t, "A1:0,1 B1:0,1 C1:0,1,2 D1:0 E1:0"), misfits(wire.Event{Kind: kind})...) {
			if step.Matches(p, step.Run{}, e) || step.Matches(p, begun, e) || step.Guarded(p, begun, e) {
				t.Errorf("kind %d is come to by %v", kind, e)
			}
		}
	}
}

// P15.1: a run is done at the last step of its own path, and a run of nothing is not.
func TestDone(t *testing.T) {
	p := planned(t, "(A a | A b ; B c | A d ; B e ; A f) WITHIN 5")
	whole := run(t, "A1:0,1 B2:1,0 A3:0,1")
	for n := range 3 {
		for at := range 4 {
			r := step.Run{Path: n, At: at, Tuple: whole.Tuple[:at], Events: whole.Events[:at]}
			if got := step.Done(p, r); got != (at == n+1) {
				t.Errorf("path %d, at %d: Done %v", n, at, got)
			}
		}
	}
}

// P15.1: what is bound of each event: its own step's Var, its own kind's Fields, its V.
func TestBinds(t *testing.T) {
	p := planned(t, "A a{2,2} ; !D d ; B b ; (C a | E e) WITHIN 5")
	for _, c := range []struct {
		path         int
		events, want string
	}{
		{0, "", ""}, {0, "A1:0,1", "a k=0 x=1"}, {0, "A1:0,1 A2:3,4", "a k=0 x=1; a k=3 x=4"}, {0, "A1:0,1 A2:3,4 B3:5,6", "a k=0 x=1; a k=3 x=4; b y=5 k=6"},
		{0, "A1:0,1 A2:3,4 B3:5,6 C4:7,8,9", "a k=0 x=1; a k=3 x=4; b y=5 k=6; a x=7 y=8 k=9"}, {1, "A1:0,1 A2:3,4 B3:5,6 E4:-7", "a k=0 x=1; a k=3 x=4; b y=5 k=6; e z=-7"},
		{1, "A1:0,1 A2:3,4 B3:5,6 C4:7,8,9", ""}, {0, "A1:0,1 B3:5,6", ""}, {0, "B3:5,6", ""}, {2, "A1:0,1", ""},
	} {
		r := run(t, c.events)
		r.Path = c.path
		if got := show(step.Binds(p, r)); got != c.want {
			t.Errorf("path %d, %q: Binds %q; want %q", c.path, c.events, got, c.want)
		}
	}
	// Of any Vars and Fields there may be.
	odd := step.Plan{Schema: []schema.Kind{{}, {Fields: []string{"", ""}}}, Paths: [][]path.Step{{{Kind: 1, Var: "\xff"}, {Kind: 0}}}}
	r := step.Run{At: 2, Tuple: []int{0, 1}, Events: []wire.Event{{Kind: 1, V: []int64{1, 2}}, {}}}
	if l := step.Binds(odd, r); len(l) != 2 || l[0].Var != "\xff" || l[1].Var != "" || !slices.Equal(l[0].Fields, []string{"", ""}) || !slices.Equal(l[0].V, []int64{1, 2}) || len(l[1].Fields)+len(l[1].V) != 0 {
		t.Errorf("odd Binds: %v", l)
	}
}

// asked: which of events in words match, and which guard, as their numbers.
func asked(t *testing.T, p step.Plan, r step.Run, text string) (match, guard string) {
	t.Helper()
	for at, e := range read(t, text) {
		if step.Matches(p, r, e) {
			match += fmt.Sprint(at, " ")
		}
		if step.Guarded(p, r, e) {
			guard += fmt.Sprint(at, " ")
		}
	}
	return strings.TrimSpace(match), strings.TrimSpace(guard)
}

// P15.2: of which run, and which event.
func TestMatches(t *testing.T) {
	for _, c := range []struct{ query, run, events, want string }{
		// Of a run of nothing the first step, at any time, of any partition.
		{"A a ; B b WITHIN 5", "", "A1:0,1 B1:0,1 A-9223372036854775808:0,1 A9223372036854775807:0,1 D1:0 Z1:0,1 A1:0 A1:0,1,2 A1", "0 2 3"},
		{"A a ; B b WITHIN 5 BY k", "", "A1:0,1 B1:0,1 A-9223372036854775808:7,1 A9223372036854775807:8,1 D1:0", "0 2 3"},
		// Of one that is on its way the step it is at, and no other one.
		{"A a ; B b ; C c WITHIN 5", "A1:0,1", "A1:0,1 B1:0,1 C1:0,1,2 D1:0 E1:0 Z1:0,1 B1:0 B1:0,1,2 B1", "1"},
		{"A a ; B b ; C c WITHIN 5", "A1:0,1 B1:0,1", "A1:0,1 B1:0,1 C1:0,1,2 D1:0 E1:0 Z1:0,1,2 C1:0,1 C1:0,1,2,3 C1", "2"},
		// Of one that is done nothing.
		{"A a ; B b WITHIN 5", "A1:0,1 B1:0,1", "A1:0,1 B1:0,1 C1:0,1,2 D1:0 E1:0 Z1:0,1", ""},
		{"A a WITHIN 5", "A1:0,1", "A1:0,1 B1:0,1", ""},
		// The time is held against the first event's, not the last one's, and may be ahead of both.
		{"A a ; B b WITHIN 5", "A1:0,1", "B6:0,1 B7:0,1 B1:0,1 B0:0,1 B-99:0,1 B2:0,1 B8:0,1", "0 2 3 4 5"},
		{"A a ; B b ; B c WITHIN 5", "A1:0,1 B4:0,1", "B6:0,1 B7:0,1 B9:0,1 B1:0,1 B0:0,1 B-99:0,1", "0 3 4 5"},
		{"A a ; B b ; B c WITHIN 5", "A4:0,1 B1:0,1", "B6:0,1 B7:0,1 B9:0,1 B10:0,1", "0 1 2"},
		{"A a ; B b WITHIN 0", "A1:0,1", "B1:0,1 B2:0,1 B0:0,1", "0 2"},
		{"A a ; B b WITHIN 1000000000", "A1:0,1", "B1000000001:0,1 B1000000002:0,1", "0"},
		// At both ends of 64 bits.
		{"A a ; B b WITHIN 5", "A9223372036854775802:0,1", "B9223372036854775807:0,1 B-9223372036854775808:0,1 B-5:0,1 B-6:0,1 B-7:0,1", "0 2 3"},
		{"A a ; B b WITHIN 5", "A9223372036854775801:0,1", "B9223372036854775806:0,1 B9223372036854775807:0,1", "0"},
		{"A a ; B b WITHIN 5", "A-9223372036854775808:0,1", "B-9223372036854775808:0,1 B-9223372036854775803:0,1 B-9223372036854775802:0,1 B-1:0,1 B0:0,1 B9223372036854775807:0,1", "0 1"},
		// The partition is the first event's, by the number that its kind has the field at.
		{"A a ; B b WITHIN 5 BY k", "A1:7,8", "B1:0,7 B1:7,8 B1:7,7 B1:8,0", "0 2"},
		{"A a ; B b WITHIN 5", "A1:7,8", "B1:0,7 B1:7,8 B1:7,7 B1:8,0", "0 1 2 3"},
		{"C a ; B b ; D d WITHIN 5 BY k", "C1:5,6,7 B1:1,7", "D1:5 D1:6 D1:7 D1:1 D1:0", "2"},
		{"B a ; B b WITHIN 5 BY y", "B1:7,8", "B1:7,9 B1:9,8 B1:8,7", "0"},
		{"D a ; D b WITHIN 5 BY k", "D1:-9223372036854775808", "D1:-9223372036854775808 D1:9223372036854775807 D1:0", "0"},
		{"D a ; D b WITHIN 5 BY k", "D1:0", "D1:0 D1:1", "0"},
	} {
		if got, _ := asked(t, planned(t, c.query), run(t, c.run), c.events); got != c.want {
			t.Errorf("%q at %q is matched by %q of %q; want %q", c.query, c.run, got, c.events, c.want)
		}
	}
}

// P15.2: the partition is held against the first event's, where the others of the run are of another one.
func TestMatchesByTheFirst(t *testing.T) {
	p := planned(t, "A a ; B b ; !C c ; D d WITHIN 5 BY k")
	match, guard := asked(t, p, run(t, "A1:7,0 B1:0,8"), "D1:7 D1:8 D1:0 C1:0,0,7 C1:0,0,8 C1:7,8,0")
	if match != "0" || guard != "3" {
		t.Errorf("matched by %q, guarded by %q", match, guard)
	}
}

// P15.2: what a Pred asks, of the events ahead, and of the one that comes.
func TestMatchesPreds(t *testing.T) {
	for _, c := range []struct{ query, run, events, want string }{
		{"A a[a.x > 0]", "", "A1:0,1 A1:1,0 A1:0,2 A1:1,-1 B1:1,1", "0 2"},
		{"A a[1 == 1]", "", "A1:0,1 A1:1,0", "0 1"}, {"A a[1 == 2]", "", "A1:0,1 A1:1,0", ""},
		// Of the events ahead, each by its own Var and Fields.
		{"A a ; B b[b.y > a.x]", "A1:0,3", "B1:4,0 B1:3,0 B1:5,9 B1:2,9", "0 2"},
		{"A a ; B b ; C c[c.x == a.x && c.y == b.y + 1]", "A1:0,3 B1:4,0", "C1:3,5,0 C1:3,4,0 C1:4,5,0 C1:0,3,5", "0"},
		{"A a ; B b ; C c[a.x < b.y]", "A1:0,3 B1:4,0", "C1:0,0,0", "0"}, {"A a ; B b ; C c[a.x < b.y]", "A1:0,4 B1:4,0", "C1:0,0,0", ""},
		// Of the one that comes by the Var of its step, even where that was bound ahead.
		{"A a ; A a[a.x == 2]", "A1:0,1", "A1:0,2 A1:0,1 A1:0,3", "0"}, {"A a ; A a[a.x == 2]", "A1:0,2", "A1:0,2 A1:0,1", "0"}, {"A a ; B a[a.y == 2]", "A1:0,1", "B1:2,0 B1:1,0", "0"},
		{"A a{2,2}[a.x != 1] ; B b", "A1:0,2", "A1:0,2 A1:0,1 A1:0,3", "0 2"},
		// Of two of one Var ahead the last one.
		{"A a ; A a ; B b[b.y == a.x]", "A1:0,1 A1:0,2", "B1:1,0 B1:2,0 B1:3,0", "1"}, {"A a ; C a ; B b[b.y == a.x]", "A1:0,1 C1:5,6,7", "B1:1,0 B1:5,0 B1:6,0 B1:7,0", "1"}, {"C a ; A a ; B b[b.y == a.x]", "C1:5,6,7 A1:0,1", "B1:1,0 B1:5,0 B1:6,0 B1:7,0", "0"},
		// What is bad holds not, nor does its contrary.
		{"A a[1 / a.x == 1]", "", "A1:0,0 A1:0,1 A1:0,2", "1"}, {"A a[!(1 / a.x == 1)]", "", "A1:0,0 A1:0,1 A1:0,2", "2"},
		{"A a ; B b[a.x + b.y > 0]", "A1:0,9223372036854775807", "B1:0,0 B1:1,0 B1:-1,0 B1:-9223372036854775808,0", "0 2"},
		{"A a ; B b[!(a.x + b.y > 0)]", "A1:0,9223372036854775807", "B1:0,0 B1:1,0 B1:-1,0 B1:-9223372036854775808,0", "3"},
	} {
		if got, _ := asked(t, planned(t, c.query+" WITHIN 5"), run(t, c.run), c.events); got != c.want {
			t.Errorf("%q at %q is matched by %q of %q; want %q", c.query, c.run, got, c.events, c.want)
		}
	}
}

// P15.2: Preds that no query has: what is none, and what is not bound, holds not; what is asked first turns nothing.
func TestPredsOfAnyForm(t *testing.T) {
	truth := func(text string) expr.Expr {
		x, _, e := parse.Expr(text)
		if e != api.OK {
			t.Fatalf("Expr(%q): %d", text, e)
		}
		return x
	}
	wrong := []expr.Expr{{}, {Kind: 9}, {Kind: -1}, {Kind: expr.Unary, Op: "!"}, {Kind: expr.Binary, Op: "=="}, {Kind: expr.Binary, Op: "?", Kids: make([]expr.Expr, 2)}, {Kind: expr.Ref, Var: "a", Field: "x"}, truth("1"), truth("a.x"), truth("z.x == 1"), truth("a.z == 1"), truth("!(z.x == 1)"), truth("b.y == 1"), truth("1 / 0 == 1")}
	for at, c := range []struct {
		preds []expr.Expr
		want  bool
	}{{nil, true}, {[]expr.Expr{}, true}, {[]expr.Expr{truth("g.x == 1")}, true}, {[]expr.Expr{truth("g.x == 2")}, false}, {[]expr.Expr{truth("a.x == 5")}, true}, {[]expr.Expr{truth("a.x == 1")}, false}} {
		p := step.Plan{Schema: kinds(), Paths: [][]path.Step{{{Kind: 0, Var: "a"}, {Kind: 2, Var: "g", Pred: c.preds, Guards: []path.Guard{{Kind: 2, Var: "g", Pred: c.preds}}}}}}
		r, e := run(t, "A1:0,5"), read(t, "C1:1,0,0")[0]
		if step.Matches(p, r, e) != c.want || step.Guarded(p, r, e) != c.want {
			t.Errorf("%d: Matches %v, Guarded %v; want %v", at, step.Matches(p, r, e), step.Guarded(p, r, e), c.want)
		}
	}
	for at, x := range wrong {
		p := step.Plan{Schema: kinds(), Paths: [][]path.Step{{{Kind: 0, Var: "a"}, {Kind: 2, Var: "g", Pred: []expr.Expr{x}, Guards: []path.Guard{{Kind: 2, Var: "g", Pred: []expr.Expr{x}}}}}}}
		r, e := run(t, "A1:0,5"), read(t, "C1:1,0,0")[0]
		if step.Matches(p, r, e) || step.Guarded(p, r, e) {
			t.Errorf("wrong %d: Matches %v, Guarded %v", at, step.Matches(p, r, e), step.Guarded(p, r, e))
		}
	}
}

// P15.2: what guards, and what does not.
func TestGuarded(t *testing.T) {
	for _, c := range []struct{ query, run, events, want string }{
		// Of the step that the run is at, not of one ahead, nor of one behind.
		{"A a ; !C c ; B b ; !D d ; B e WITHIN 5", "A1:0,1", "C1:0,1,2 D1:0 A1:0,1 B1:0,1 E1:0 Z1:0,1,2", "0"},
		{"A a ; !C c ; B b ; !D d ; B e WITHIN 5", "A1:0,1 B1:0,1", "C1:0,1,2 D1:0 A1:0,1 B1:0,1 E1:0 Z1:0", "1"},
		{"A a ; !C c ; B b ; !D d ; B e WITHIN 5", "A1:0,1 B1:0,1 B1:0,1", "C1:0,1,2 D1:0 A1:0,1 B1:0,1 E1:0", ""},
		{"A a ; !C c ; B b ; !D d ; B e WITHIN 5", "", "C1:0,1,2 D1:0 A1:0,1 B1:0,1 E1:0", ""},
		{"A a ; B b WITHIN 5", "A1:0,1", "A1:0,1 B1:0,1 C1:0,1,2 D1:0", ""},
		// Of several guards any one.
		{"A a ; !C c ; !D d ; B b WITHIN 5", "A1:0,1", "C1:0,1,2 D1:0 A1:0,1 B1:0,1 E1:0", "0 1"},
		{"A a ; !C c[c.x == 1] ; !C d[d.x == 2] ; B b WITHIN 5", "A1:0,1", "C1:0,1,2 C1:1,0,0 C1:2,0,0 C1:3,1,2", "1 2"},
		// Of the kind of the step itself, or of the one ahead.
		{"A a ; !B c ; B b WITHIN 5", "A1:0,1", "B1:0,1 A1:0,1", "0"}, {"A a ; !A c ; B b WITHIN 5", "A1:0,1", "B1:0,1 A1:0,1", "1"},
		// What does not fit guards nothing.
		{"A a ; !C c ; B b WITHIN 5", "A1:0,1", "C1:0,1 C1:0,1,2,3 C1 C1:0,1,2", "3"},
		// No time is asked.
		{"A a ; !C c ; B b WITHIN 5", "A1:0,1", "C6:0,1,2 C7:0,1,2 C99:0,1,2 C-99:0,1,2 C9223372036854775807:0,1,2 C-9223372036854775808:0,1,2", "0 1 2 3 4 5"},
		{"A a ; !C c ; B b WITHIN 0", "A9223372036854775807:0,1", "C-9223372036854775808:0,1,2", "0"},
		// The partition is.
		{"A a ; !C c ; B b WITHIN 5 BY k", "A1:7,1", "C1:0,1,7 C1:7,7,8 C1:7,7,0", "0"}, {"A a ; !C c ; B b WITHIN 5", "A1:7,1", "C1:0,1,7 C1:7,7,8 C1:7,7,0", "0 1 2"},
		{"A a ; B b ; !D d ; B e WITHIN 5 BY k", "A1:7,1 B1:1,7", "D1:7 D1:1 D1:0", "0"}, {"B a ; !C c ; B b WITHIN 5 BY y", "B1:7,8", "C1:7,0,0 C1:0,7,0 C1:0,8,0", "1"},
		// A Pred asks of the events ahead, and of what comes by the guard's Var, even where that was bound ahead.
		{"A a ; !C c[c.y == a.x] ; B b WITHIN 5", "A1:0,1", "C1:0,1,2 C1:1,0,2 C1:1,1,1", "0 2"}, {"A a ; B b ; !C c[c.x == a.x && c.y == b.y] ; B d WITHIN 5", "A1:0,1 B1:2,0", "C1:1,2,0 C1:2,1,0 C1:1,1,0", "0"},
		{"A a ; !A a[a.x == 2] ; B b WITHIN 5", "A1:0,1", "A1:0,1 A1:0,2", "1"}, {"A a ; !A a[a.x == 2] ; B b WITHIN 5", "A1:0,2", "A1:0,1 A1:0,2", "1"}, {"A a ; A a ; !C c[c.x == a.x] ; B b WITHIN 5", "A1:0,1 A1:0,2", "C1:1,0,0 C1:2,0,0", "1"},
		{"A a ; !C c[1 / c.x == 0] ; B b WITHIN 5", "A1:0,1", "C1:0,0,0 C1:1,0,0 C1:2,0,0", "2"}, {"A a ; !C c[!(1 / c.x == 0)] ; B b WITHIN 5", "A1:0,1", "C1:0,0,0 C1:1,0,0 C1:2,0,0", "1"},
		{"A a ; !C c[1 == 2] ; B b WITHIN 5", "A1:0,1", "C1:0,0,0", ""}, {"A a ; !C c[1 == 2] ; !C d ; B b WITHIN 5", "A1:0,1", "C1:0,0,0", "0"},
		// The step's own Pred is not the guard's.
		{"A a ; !C c ; C b[1 == 2] WITHIN 5", "A1:0,1", "C1:0,0,0", "0"}, {"A a ; !C c[1 == 2] ; C b WITHIN 5", "A1:0,1", "C1:0,0,0", ""},
	} {
		if _, got := asked(t, planned(t, c.query), run(t, c.run), c.events); got != c.want {
			t.Errorf("%q at %q is guarded by %q of %q; want %q", c.query, c.run, got, c.events, c.want)
		}
	}
}

// P15.2: a guard of a first step, which no query has, guards nothing; one of a kind that has no By neither.
func TestGuardedOddly(t *testing.T) {
	p := step.Plan{Schema: kinds(), Paths: [][]path.Step{{{Kind: 0, Guards: []path.Guard{{Kind: 2}}}, {Kind: 1, Guards: []path.Guard{{Kind: 4}, {Kind: 3}}}}}}
	e := read(t, "E1:0 D1:0 C1:0,0,0")
	for by, want := range map[string]string{"": "0 1", "k": "1"} {
		p.By = by
		if _, got := asked(t, p, step.Run{}, "E1:0 D1:0 C1:0,0,0"); got != "" {
			t.Errorf("BY %q: a run of nothing is guarded by %q", by, got)
		}
		if _, got := asked(t, p, run(t, "A1:0,0"), "E1:0 D1:0 C1:0,0,0"); got != want {
			t.Errorf("BY %q: guarded by %q of %v; want %q", by, got, e, want)
		}
	}
}

// P15.3: what has expired, at all ends, of a run that is right or is not.
func TestExpired(t *testing.T) {
	p := planned(t, "A a ; B b WITHIN 5")
	for _, r := range []step.Run{{}, {Events: []wire.Event{}}, {At: 1}, {Path: -1, At: 7, Tuple: []int{1}}} {
		for _, now := range []int64{least, -1, 0, 1, most} {
			if step.Expired(p, r, now) {
				t.Errorf("%+v, of no events, has expired at %d", r, now)
			}
		}
	}
	for _, c := range []struct {
		first, within, now int64
		want               bool
	}{
		{1, 5, 6, false}, {1, 5, 7, true}, {1, 5, 1, false}, {1, 5, -99, false}, {1, 5, most, true}, {1, 5, least + 1, false}, {1, 5, least, true},
		{0, 0, 0, false}, {0, 0, 1, true}, {0, 0, -1, false}, {0, most, most, false}, {-1, most, most, true}, {-1, most, most - 1, false},
		{least, 5, least, false}, {least, 5, least + 5, false}, {least, 5, least + 6, true}, {least, most, -1, false}, {least, most, 0, true}, {least, most, most, true},
		{most, 5, most, false}, {most - 5, 5, most, false}, {most - 6, 5, most, true}, {most, 5, -1, false}, {most, 5, 0, false}, {most, 5, -2, true}, {most, 5, least, true},
		{7, -1, 7, true}, {7, -1, 6, false}, {7, least, 7, true}, {0, least, least, false}, {0, least, least + 1, true}, {1, 1000000000, 1000000001, false}, {1, 1000000000, 1000000002, true},
	} {
		p.Within = c.within
		first := wire.Event{V: []int64{0, 0}, Time: c.first}
		for at, r := range []step.Run{
			{At: 1, Tuple: []int{0}, Events: []wire.Event{first}}, {At: 2, Tuple: []int{0, 1}, Events: []wire.Event{first, {Kind: 1, Time: c.now, V: []int64{0, 0}}}}, {At: 2, Tuple: []int{0, 1}, Events: []wire.Event{first, {Kind: 1, Time: 3, V: []int64{0, 0}}}},
			// Events are all that is asked.
			{Events: []wire.Event{first}}, {Path: -1, At: -1, Tuple: []int{3, 2, 1}, Events: []wire.Event{{Kind: 77, Time: c.first}, {Time: c.now}}},
		} {
			if got := step.Expired(p, r, c.now); got != c.want {
				t.Errorf("%d: of a first one at %d, within %d, at %d Expired is %v; want %v", at, c.first, c.within, c.now, got, c.want)
			}
		}
		if got := step.Matches(p, step.Run{At: 1, Tuple: []int{0}, Events: []wire.Event{first}}, wire.Event{Kind: 1, Time: c.now, V: []int64{0, 0}}); got == c.want {
			t.Errorf("of a first one at %d, within %d, at %d Matches is %v", c.first, c.within, c.now, got)
		}
	}
	// The Plan is asked for Within alone.
	if r := run(t, "A1:0,1"); !step.Expired(step.Plan{Within: 5}, r, 7) || step.Expired(step.Plan{Within: 5, By: "q"}, r, 6) {
		t.Error("of a Plan of nothing else")
	}
}

// P15.3: what a run is extended to.
func TestExtend(t *testing.T) {
	p := planned(t, "A a ; B b ; C c WITHIN 5 BY k")
	l := read(t, "A1:0,1 B2:1,0 C3:1,2,0")
	r := step.Run{}
	for at, e := range l {
		r = step.Extend(p, r, e, 10*at)
		if want := (step.Run{At: at + 1, Tuple: []int{0, 10, 20}[:at+1], Events: l[:at+1]}); !same(r, want) || !step.Right(p, r) || step.Done(p, r) != (at == 2) {
			t.Errorf("extended by %v: %+v; want %+v", e, r, want)
		}
	}
	// Nothing is asked of the run, of the event, or of the index.
	odd := wire.Event{Kind: -7, Time: least, V: []int64{most, least, 1}}
	for _, c := range []struct {
		r     step.Run
		index int
		want  step.Run
	}{
		{r, 5, step.Run{At: 4, Tuple: []int{0, 10, 20, 5}, Events: append(slices.Clone(l), odd)}},
		{step.Run{Path: -3, At: -1}, 0, step.Run{Path: -3, Tuple: []int{0}, Events: []wire.Event{odd}}},
		{step.Run{Path: 9, At: 7, Tuple: []int{4, 4}, Events: l[:1]}, -2, step.Run{Path: 9, At: 8, Tuple: []int{4, 4, -2}, Events: []wire.Event{l[0], odd}}},
		{step.Run{At: math.MaxInt, Tuple: []int{}, Events: []wire.Event{}}, math.MinInt, step.Run{At: math.MinInt, Tuple: []int{math.MinInt}, Events: []wire.Event{odd}}},
		{step.Run{At: math.MinInt}, math.MaxInt, step.Run{At: math.MinInt + 1, Tuple: []int{math.MaxInt}, Events: []wire.Event{odd}}},
		{step.Run{Path: math.MaxInt, Events: []wire.Event{{}, odd}}, 0, step.Run{Path: math.MaxInt, At: 1, Tuple: []int{0}, Events: []wire.Event{{}, odd, odd}}},
	} {
		for _, p := range []step.Plan{p, {}} {
			if got := step.Extend(p, c.r, odd, c.index); !same(got, c.want) {
				t.Errorf("%+v is extended to %+v; want %+v", c.r, got, c.want)
			}
		}
	}
}

// same: are all fields the same, one by one?
func same(a, b step.Run) bool {
	return a.Path == b.Path && a.At == b.At && slices.Equal(a.Tuple, b.Tuple) && slices.EqualFunc(a.Events, b.Events, wire.Same)
}
