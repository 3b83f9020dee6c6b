package exact_test

import (
	"fmt"
	"math"
	"slices"
	"strings"
	"testing"

	"jettison/api"
	"jettison/exact"
	"jettison/expr"
	"jettison/parse"
	"jettison/pattern"
	"jettison/schema"
	"jettison/step"
	"jettison/wire"
)

const least, most = math.MinInt64, math.MaxInt64

// kinds: what the queries of the tests are of. All have k, though not in one place; there is no E.
func kinds() []schema.Kind {
	return []schema.Kind{{Name: "A", Fields: []string{"k", "x"}}, {Name: "B", Fields: []string{"y", "k"}}, {Name: "C", Fields: []string{"x", "y", "k"}}, {Name: "D", Fields: []string{"k"}}}
}

func parsed(t *testing.T, text string) pattern.Query {
	t.Helper()
	q, at, e := parse.Parse(text)
	if e != api.OK {
		t.Fatalf("Parse(%q): %d at %d", text, e, at)
	}
	return q
}

// read: events in words: a kind, its time, and, behind a :, its numbers with , between. What is no kind's name is a
// number that is none's.
func read(t *testing.T, text string) (told []wire.Event) {
	t.Helper()
	for _, word := range strings.Fields(text) {
		head, numbers, _ := strings.Cut(word, ":")
		e := wire.Event{Kind: strings.Index("ABCD", head[:1])}
		if n, err := fmt.Sscan(head[1:], &e.Time); n != 1 {
			t.Fatalf("%q: %v", word, err)
		}
		for _, digits := range strings.FieldsFunc(numbers, func(r rune) bool { return r == ',' }) {
			var n int64
			if _, err := fmt.Sscan(digits, &n); err != nil {
				t.Fatalf("%q: %v", word, err)
			}
			e.V = append(e.V, n)
		}
		told = append(told, e)
	}
	return told
}

// put: tuples as a text, 0 1; 0 2.
func put(l [][]int) string {
	var told []string
	for _, one := range l {
		told = append(told, strings.Trim(fmt.Sprint(one), "[]"))
	}
	return strings.Join(told, "; ")
}

// show: runs as a text, of each its path, and its tuple: 0: 0; 1: 0 2.
func show(l []step.Run) string {
	var told []string
	for _, r := range l {
		told = append(told, fmt.Sprint(r.Path, ": ", put([][]int{r.Tuple})))
	}
	return strings.Join(told, "; ")
}

// begun: of nothing yet.
func begun(t *testing.T, text string) *exact.Exact {
	t.Helper()
	x, e := exact.New(kinds(), parsed(t, text))
	if e != api.OK || x == nil {
		t.Fatalf("New(%q): %d", text, e)
	}
	return x
}

// A push is an event in words, and what there is behind it: the error, what is told, and the runs.
type push struct {
	event string
	wrong api.Errno
	told  string
	runs  string
}

// play pushes one by one; Next is how many were not refused.
func play(t *testing.T, text string, l []push) {
	t.Helper()
	x, next := begun(t, text), 0
	for at, one := range l {
		told, e := x.Push(read(t, one.event)[0])
		if e == api.OK {
			next++
		}
		if put(told) != one.told || e != one.wrong || show(x.Runs()) != one.runs || x.Next() != next || e != api.OK && told != nil {
			t.Errorf("%q, %d: Push(%s) tells %q, %d; want %q, %d; the runs are %q; want %q; Next is %d; want %d", text, at, one.event, put(told), e, one.told, one.wrong, show(x.Runs()), one.runs, x.Next(), next)
		}
	}
}

// P16.1: it begins with nothing, at no time.
func TestNew(t *testing.T) {
	for _, text := range []string{"A a WITHIN 0", "A a ; !C c ; B b WITHIN 5 BY k", "(A a | B b{1,4}) ; (C c | D d) WITHIN 1000000000"} {
		x := begun(t, text)
		if l := x.Runs(); len(l) != 0 || x.Next() != 0 {
			t.Errorf("New(%q): runs %q, Next %d", text, show(l), x.Next())
		}
	}
	// No time: the first event may have any, and only then there is one.
	for _, at := range []int64{least, least + 1, -1, 0, 1, most} {
		x := begun(t, "A a ; B b WITHIN 5")
		if told, e := x.Push(wire.Event{Time: at, V: []int64{0, 0}}); len(told) != 0 || e != api.OK || show(x.Runs()) != "0: 0" || x.Next() != 1 {
			t.Errorf("at %d: %q, %d; runs %q, Next %d", at, put(told), e, show(x.Runs()), x.Next())
		}
	}
	// What is refused is not the first one.
	play(t, "A a ; B b WITHIN 5", []push{{"E9:0,0", api.ErrName, "", ""}, {"A9", api.ErrForm, "", ""}, {"A-9:0,0", 0, "", "0: 0"}, {"B-10:0,0", api.ErrLate, "", "0: 0"}, {"B-9:0,0", 0, "0 1", "0: 0"}})
	// Its plan has the schema, the paths, Within and By of what was handed in.
	s := []schema.Kind{{Name: "Z", Fields: []string{"p", "q"}}, {Name: "Y", Fields: []string{"q", "r", "p"}}}
	x, e := exact.New(s, parsed(t, "Z z ; (Y y | Z z) WITHIN 3 BY q"))
	if e != api.OK {
		t.Fatalf("New: %d", e)
	}
	for at, c := range []struct {
		e    wire.Event
		want string
	}{
		{wire.Event{V: []int64{1, 7}}, ""}, {wire.Event{Kind: 1, V: []int64{7, 0, 1}}, "0 1"}, {wire.Event{Kind: 1, V: []int64{8, 7, 7}}, ""}, {wire.Event{Time: 3, V: []int64{7, 8}}, ""}, {wire.Event{Time: 3, V: []int64{8, 7}}, "0 4"}, {wire.Event{Kind: 1, Time: 4, V: []int64{7, 0, 0}}, "4 5"},
	} {
		if told, e := x.Push(c.e); put(told) != c.want || e != api.OK {
			t.Errorf("%d: %q, %d; want %q", at, put(told), e, c.want)
		}
	}
}

// wrongQueries: of kinds, each error with the texts of what may not be.
func wrongQueries() map[api.Errno][]string {
	return map[api.Errno][]string{
		api.ErrArg:   {"!A a", "A a ; !B b", "!B b ; A a", "(A a | !B b ; A c)", "A a ; (B b ; !C c | A a) ; A d", "!E e[1]"},
		api.ErrLimit: {"A a{1,4} ; A b{1,4} ; A c{1,3}", "A a{4,4} ; A b{4,4} ; A c{4,4} ; A d", "A a[1" + strings.Repeat(" + 1", 127) + " < 1]", "A a{1,4}[1] ; A b{1,4} ; E c{1,4}"},
		api.ErrName:  {"E e", "A a ; !E e ; B b", "(A a | E e)", "A a[a.y < 1]", "A a[b.y < 1] ; B b", "A a ; !B b ; C c[b.y < 1]", "A a ; B a ; C c[a.x < 1]", "E e ; A a[1]"},
		api.ErrType:  {"A a[1]", "A a ; !B b[b.y] ; C c", "(A a | B b{1,3}[-b.y])", "A a[1] ; E e"},
	}
}

// wrongSchemas: each error with the schemas that have it.
func wrongSchemas() map[api.Errno][][]schema.Kind {
	many := make([]schema.Kind, 17)
	for at := range many {
		many[at].Name = string(rune('A' + at))
	}
	return map[api.Errno][][]schema.Kind{
		api.ErrLimit: {nil, {}, many, {{Name: "A", Fields: make([]string, 9)}}},
		api.ErrName:  {{{}}, append(kinds(), schema.Kind{Name: "A"}), append(kinds(), schema.Kind{Name: "BY"}), append(kinds(), schema.Kind{Name: "E", Fields: []string{"x", "x"}}), {{Name: "A", Fields: []string{"9"}}}},
	}
}

// refused: New tells no object, All no tuples, whatever the events are.
func refused(t *testing.T, s []schema.Kind, q pattern.Query, want api.Errno) {
	t.Helper()
	if x, e := exact.New(s, q); x != nil || e != want {
		t.Errorf("New(%q, %+v) tells %v, %d; want %d", schema.Put(s), q, x, e, want)
	}
	for _, text := range []string{"", "A1:0,1 A2:0,2 B3:5,0 C4:1,9,0 E4 A5:0,3 A1:0,0 B6:2,0 D7:0", "E1 A1", "A1:0,0"} {
		if told, e := exact.All(s, q, read(t, text)); told != nil || e != want {
			t.Errorf("All(%q, %+v, %q) tells %q, %d; want %d", schema.Put(s), q, text, put(told), e, want)
		}
	}
}

// P16.1, P16.3, P2: a query that may not be.
func TestNewErrors(t *testing.T) {
	for want, texts := range wrongQueries() {
		for _, text := range texts {
			refused(t, kinds(), parsed(t, text+" WITHIN 5"), want)
		}
	}
	for by, want := range map[string]api.Errno{"x": api.ErrName, "y": api.ErrName, "a": api.ErrName, "k": api.ErrType} {
		refused(t, kinds(), parsed(t, "A a ; B b ; C c[1] WITHIN 5 BY "+by), want)
	}
	a := pattern.Item{Kind: pattern.One, Name: "A", Var: "a"}
	for _, q := range []pattern.Query{
		{}, {Items: []pattern.Item{}}, {Items: []pattern.Item{{}}}, {Items: []pattern.Item{a}, Within: -1}, {Items: []pattern.Item{a}, Within: 1000000001}, {Items: []pattern.Item{a}, Within: least}, {Items: []pattern.Item{a}, Within: most}, {Items: []pattern.Item{a}, By: "9"},
		{Items: []pattern.Item{{Kind: 4, Name: "A", Var: "a"}}}, {Items: []pattern.Item{{Kind: -1, Name: "A", Var: "a"}}}, {Items: []pattern.Item{{Kind: pattern.Times, Name: "A", Var: "a", Low: math.MinInt, High: math.MaxInt}}}, {Items: []pattern.Item{{Kind: pattern.Times, Name: "A", Var: "a", Low: 2, High: 1}}},
		{Items: []pattern.Item{{Kind: pattern.Alt}}}, {Items: []pattern.Item{{Kind: pattern.Alt, Kids: make([][]pattern.Item, 2)}}}, {Items: []pattern.Item{{Name: "A", Var: "a", Pred: make([]expr.Expr, 2)}}}, {Items: []pattern.Item{{Name: "A", Var: "a", Pred: []expr.Expr{{Kind: 9}}}}},
	} {
		refused(t, kinds(), q, api.ErrArg)
	}
	refused(t, kinds(), pattern.Query{Items: slices.Repeat([]pattern.Item{a}, 13)}, api.ErrLimit)
	for want, l := range wrongSchemas() {
		for _, s := range l {
			// What is wrong with the schema is told ahead of what is wrong with the query.
			for _, q := range []pattern.Query{{}, {Items: []pattern.Item{a}}, {Items: []pattern.Item{{Kind: pattern.Not, Name: "E", Var: "e"}}, Within: -1}, {Items: slices.Repeat([]pattern.Item{a}, 13)}} {
				refused(t, s, q, want)
			}
		}
	}
}

// P16.2: what is told, and which runs there are, in their order, behind each event.
func TestPush(t *testing.T) {
	for _, c := range []struct {
		query string
		l     []push
	}{
		// The document's example.
		{"A a ; B b WITHIN 5", []push{{"A1:0,0", 0, "", "0: 0"}, {"B3:0,0", 0, "0 1", "0: 0"}, {"B9:0,0", 0, "", ""}}},
		// What is done at once is no run, nor is what nothing came to.
		{"A a WITHIN 5", []push{{"A1:0,0", 0, "0", ""}, {"B1:0,0", 0, "", ""}, {"A1:0,0", 0, "2", ""}}},
		{"(A a | B b ; A c) WITHIN 5", []push{{"A1:0,0", 0, "0", ""}, {"B1:0,0", 0, "", "1: 1"}, {"A1:0,0", 0, "1 2; 2", "1: 1"}}},
		{"D d ; A a WITHIN 5", []push{{"A1:0,0", 0, "", ""}, {"B2:0,0", 0, "", ""}, {"C3:0,0,0", 0, "", ""}}},
		// A run that is extended lives on beside what it was extended to.
		{"A a ; B b ; C c WITHIN 9", []push{
			{"A1:0,0", 0, "", "0: 0"}, {"B2:0,0", 0, "", "0: 0; 0: 0 1"}, {"B3:0,0", 0, "", "0: 0; 0: 0 1; 0: 0 2"}, {"C4:0,0,0", 0, "0 1 3; 0 2 3", "0: 0; 0: 0 1; 0: 0 2"},
			{"B5:0,0", 0, "", "0: 0; 0: 0 1; 0: 0 2; 0: 0 4"}, {"C6:0,0,0", 0, "0 1 5; 0 2 5; 0 4 5", "0: 0; 0: 0 1; 0: 0 2; 0: 0 4"},
		}},
		// The runs that there are come in order, and what begins behind them, whatever its path.
		{"A a{3,3} WITHIN 9", []push{{"A1:0,0", 0, "", "0: 0"}, {"A2:0,0", 0, "", "0: 0; 0: 0 1; 0: 1"}, {"A3:0,0", 0, "0 1 2", "0: 0; 0: 0 1; 0: 1; 0: 0 2; 0: 1 2; 0: 2"}, {"A4:0,0", 0, "0 1 3; 0 2 3; 1 2 3", "0: 0; 0: 0 1; 0: 1; 0: 0 2; 0: 1 2; 0: 2; 0: 0 3; 0: 1 3; 0: 2 3; 0: 3"}}},
		{"(A a ; A b ; B c | A a{2,2} ; C c) WITHIN 9", []push{{"A1:0,0", 0, "", "0: 0; 1: 0"}, {"A2:0,0", 0, "", "0: 0; 1: 0; 0: 0 1; 1: 0 1; 0: 1; 1: 1"}, {"A3:0,0", 0, "", "0: 0; 1: 0; 0: 0 1; 1: 0 1; 0: 1; 1: 1; 0: 0 2; 1: 0 2; 0: 1 2; 1: 1 2; 0: 2; 1: 2"}}},
		// What begins at the same event of several paths stands in their order, and each goes on by its own.
		{"(A a ; B b | A a ; C c | B b ; A a | A d ; D d) WITHIN 9", []push{{"A1:0,0", 0, "", "0: 0; 1: 0; 3: 0"}, {"B2:0,0", 0, "0 1", "0: 0; 1: 0; 3: 0; 2: 1"}, {"A3:0,0", 0, "1 2", "0: 0; 1: 0; 3: 0; 2: 1; 0: 2; 1: 2; 3: 2"}, {"D4:0", 0, "0 3; 2 3", "0: 0; 1: 0; 3: 0; 2: 1; 0: 2; 1: 2; 3: 2"}}},
		// A longer run that came later stands behind a shorter one, and ahead of what begins by the event that made it.
		{"A a{1,2} ; (B b | A c ; C c) WITHIN 9", []push{{"A1:0,0", 0, "", "0: 0; 1: 0; 2: 0; 3: 0"}, {"A2:0,0", 0, "", "0: 0; 1: 0; 2: 0; 3: 0; 1: 0 1; 2: 0 1; 3: 0 1; 0: 1; 1: 1; 2: 1; 3: 1"}}},
	} {
		play(t, c.query, c.l)
	}
}

// P16.2: what is extended is not asked of the event that made it.
func TestPushIsNotAskedTwice(t *testing.T) {
	for _, c := range []struct {
		query string
		l     []push
	}{
		// It would match once more.
		{"A a ; A b WITHIN 5", []push{{"A1:0,0", 0, "", "0: 0"}, {"A2:0,0", 0, "0 1", "0: 0; 0: 1"}}},
		{"A a{1,4} WITHIN 5", []push{{"A1:0,0", 0, "0", "1: 0; 2: 0; 3: 0"}, {"A1:0,0", 0, "0 1; 1", "1: 0; 2: 0; 3: 0; 2: 0 1; 3: 0 1; 1: 1; 2: 1; 3: 1"}}},
		// It would be guarded.
		{"A a ; !A g ; B b WITHIN 5", []push{{"A1:0,0", 0, "", "0: 0"}, {"A2:0,0", 0, "", "0: 1"}, {"B3:0,0", 0, "1 2", "0: 1"}}},
		{"A a ; B b ; !B g ; C c WITHIN 5", []push{{"A1:0,0", 0, "", "0: 0"}, {"B2:0,0", 0, "", "0: 0; 0: 0 1"}, {"B3:0,0", 0, "", "0: 0; 0: 0 2"}, {"C3:0,0,0", 0, "0 2 3", "0: 0; 0: 0 2"}}},
		// Both.
		{"A a ; !A g ; A b ; !A g ; A c WITHIN 5", []push{{"A1:0,0", 0, "", "0: 0"}, {"A2:0,0", 0, "", "0: 0 1; 0: 1"}, {"A3:0,0", 0, "0 1 2", "0: 1 2; 0: 2"}, {"A3:0,0", 0, "1 2 3", "0: 2 3; 0: 3"}}},
		{"A a ; A b ; !A g ; A c WITHIN 5", []push{{"A1:0,0", 0, "", "0: 0"}, {"A2:0,0", 0, "", "0: 0; 0: 0 1; 0: 1"}, {"A3:0,0", 0, "0 1 2", "0: 0; 0: 1; 0: 0 2; 0: 1 2; 0: 2"}}},
	} {
		play(t, c.query, c.l)
	}
}

// P16.2: what is guarded is gone, behind what it matches by the same event.
func TestPushGuards(t *testing.T) {
	for _, c := range []struct {
		query string
		l     []push
	}{
		{"A a ; !C c ; B b WITHIN 9", []push{{"A1:0,0", 0, "", "0: 0"}, {"A2:0,0", 0, "", "0: 0; 0: 1"}, {"B3:0,0", 0, "0 2; 1 2", "0: 0; 0: 1"}, {"C4:0,0,0", 0, "", ""}, {"B5:0,0", 0, "", ""}, {"C5:0,0,0", 0, "", ""}, {"A5:0,0", 0, "", "0: 6"}, {"B5:0,0", 0, "6 7", "0: 6"}}},
		// It matches, and is guarded: it is told first, or extended first.
		{"A a ; !B g ; B b WITHIN 9", []push{{"A1:0,0", 0, "", "0: 0"}, {"B2:0,0", 0, "0 1", ""}, {"B3:0,0", 0, "", ""}}},
		{"A a ; !B g ; B b ; C c WITHIN 9", []push{{"A1:0,0", 0, "", "0: 0"}, {"B2:0,0", 0, "", "0: 0 1"}, {"B3:0,0", 0, "", "0: 0 1"}, {"C4:0,0,0", 0, "0 1 3", "0: 0 1"}}},
		{"A a ; !B g[g.y == 1] ; B b WITHIN 9", []push{{"A1:0,0", 0, "", "0: 0"}, {"B2:0,0", 0, "0 1", "0: 0"}, {"B3:1,0", 0, "0 2", ""}, {"B4:0,0", 0, "", ""}}},
		{"A a ; !B g[g.y == 1] ; B b[b.y == 0] WITHIN 9", []push{{"A1:0,0", 0, "", "0: 0"}, {"B2:1,0", 0, "", ""}, {"B3:0,0", 0, "", ""}}},
		// Of several guards one is enough; of several runs each by its own.
		{"A a ; !C c ; !D d[d.k == a.x] ; B b WITHIN 9", []push{{"A1:0,1", 0, "", "0: 0"}, {"A1:0,2", 0, "", "0: 0; 0: 1"}, {"A1:0,1", 0, "", "0: 0; 0: 1; 0: 2"}, {"D2:1", 0, "", "0: 1"}, {"D2:3", 0, "", "0: 1"}, {"B2:0,0", 0, "1 5", "0: 1"}, {"C2:0,0,0", 0, "", ""}}},
		{"A a ; !B b[b.y > a.x] ; (B b | C c) WITHIN 9", []push{{"A1:0,1", 0, "", "0: 0; 1: 0"}, {"A1:0,5", 0, "", "0: 0; 1: 0; 0: 1; 1: 1"}, {"B2:3,0", 0, "0 2; 1 2", "0: 1; 1: 1"}, {"C2:0,0,0", 0, "1 3", "0: 1; 1: 1"}}},
		// Of another path, or another step, it stays.
		{"(A a ; !C c ; B b | A a ; B b) WITHIN 9", []push{{"A1:0,0", 0, "", "0: 0; 1: 0"}, {"C2:0,0,0", 0, "", "1: 0"}, {"B3:0,0", 0, "0 2", "1: 0"}}},
		{"A a ; B b ; !D d ; C c WITHIN 9", []push{{"A1:0,0", 0, "", "0: 0"}, {"B2:0,0", 0, "", "0: 0; 0: 0 1"}, {"D2:0", 0, "", "0: 0"}, {"B2:0,0", 0, "", "0: 0; 0: 0 3"}, {"C2:0,0,0", 0, "0 3 4", "0: 0; 0: 0 3"}}},
		// Of another partition it stays.
		{"A a ; !C c ; B b WITHIN 9 BY k", []push{{"A1:7,0", 0, "", "0: 0"}, {"A2:8,0", 0, "", "0: 0; 0: 1"}, {"C3:7,7,8", 0, "", "0: 0"}, {"B4:8,7", 0, "0 3", "0: 0"}, {"B4:7,8", 0, "", "0: 0"}}},
		// A run of nothing is of the runs never, and nothing guards it.
		{"A a ; !A g ; A b WITHIN 9", []push{{"B1:0,0", 0, "", ""}, {"A1:0,0", 0, "", "0: 1"}, {"A1:0,0", 0, "1 2", "0: 2"}}},
	} {
		play(t, c.query, c.l)
	}
}

// P16.2: what is told by one event is told in order, each once.
func TestPushIsSorted(t *testing.T) {
	for _, c := range []struct {
		query, events, want string
	}{
		// Paths of several lengths, so that the longer tuple is told by a run that came later.
		{"A a{1,3} ; B b WITHIN 9", "A1:0,0 A2:0,0 A3:0,0 B4:0,0", "0 1 2 3; 0 1 3; 0 2 3; 0 3; 1 2 3; 1 3; 2 3"},
		{"(A a ; C c ; B b | A a ; B b | B b | C c ; B b) WITHIN 9", "A1:0,0 A2:0,0 C3:0,0,0 B4:0,0", "0 2 3; 0 3; 1 2 3; 1 3; 2 3; 3"},
		// Several paths tell the same.
		{"(A a ; B b | A c ; B d) WITHIN 9", "A1:0,0 A2:0,0 B4:0,0", "0 2; 1 2"},
		{"(A a | A b | A c) WITHIN 9", "A1:0,0", "0"},
		{"A a{1,2} ; A b{1,2} WITHIN 9", "A1:0,0 A1:0,0 A1:0,0 A1:0,0", "0 1 2 3; 0 1 3; 0 2 3; 0 3; 1 2 3; 1 3; 2 3"},
		// By numbers, not by digits.
		{"A a ; B b WITHIN 9", "A1:0,0 C1:0,0,0 A1:0,0 C1:0,0,0 C1:0,0,0 C1:0,0,0 C1:0,0,0 C1:0,0,0 C1:0,0,0 A1:0,0 A1:0,0 A1:0,0 B1:0,0", "0 12; 2 12; 9 12; 10 12; 11 12"},
	} {
		x := begun(t, c.query)
		var told [][]int
		for _, e := range read(t, c.events) {
			told, _ = x.Push(e)
		}
		if put(told) != c.want {
			t.Errorf("%q of %q tells at last %q; want %q", c.query, c.events, put(told), c.want)
		}
	}
}

// P16.2: times that are just near, and just not, at both ends of 64 bits too; whatever comes, what has expired is gone.
func TestPushTimes(t *testing.T) {
	for _, c := range []struct {
		query string
		l     []push
	}{
		{"A a ; B b WITHIN 5", []push{{"A1:0,0", 0, "", "0: 0"}, {"B6:0,0", 0, "0 1", "0: 0"}, {"B7:0,0", 0, "", ""}}},
		{"A a ; B b WITHIN 5", []push{{"A1:0,0", 0, "", "0: 0"}, {"D6:0", 0, "", "0: 0"}, {"D7:0", 0, "", ""}, {"B7:0,0", 0, "", ""}}},
		{"A a ; B b WITHIN 5", []push{{"A1:0,0", 0, "", "0: 0"}, {"A2:0,0", 0, "", "0: 0; 0: 1"}, {"A2:0,0", 0, "", "0: 0; 0: 1; 0: 2"}, {"B7:0,0", 0, "1 3; 2 3", "0: 1; 0: 2"}, {"A8:0,0", 0, "", "0: 4"}}},
		// The window is that of the first event, not of the last one.
		{"A a ; B b ; C c WITHIN 5", []push{{"A1:0,0", 0, "", "0: 0"}, {"B5:0,0", 0, "", "0: 0; 0: 0 1"}, {"C6:0,0,0", 0, "0 1 2", "0: 0; 0: 0 1"}, {"C7:0,0,0", 0, "", ""}}},
		// It is by the time of what is refused no more, nor by what came to nothing.
		{"A a ; B b WITHIN 5", []push{{"A1:0,0", 0, "", "0: 0"}, {"E9", api.ErrName, "", "0: 0"}, {"B9", api.ErrForm, "", "0: 0"}, {"B6:0,0", 0, "0 1", "0: 0"}}},
		// The same time twice.
		{"A a ; B b WITHIN 0", []push{{"A1:0,0", 0, "", "0: 0"}, {"B1:0,0", 0, "0 1", "0: 0"}, {"B1:0,0", 0, "0 2", "0: 0"}, {"A1:0,0", 0, "", "0: 0; 0: 3"}, {"B1:0,0", 0, "0 4; 3 4", "0: 0; 0: 3"}, {"B2:0,0", 0, "", ""}}},
		{"A a{2,2} WITHIN 0", []push{{"A1:0,0", 0, "", "0: 0"}, {"A1:0,0", 0, "0 1", "0: 0; 0: 1"}, {"A2:0,0", 0, "", "0: 2"}, {"A1:0,0", api.ErrLate, "", "0: 2"}, {"A2:0,0", 0, "2 3", "0: 2; 0: 3"}}},
		// Both ends.
		{"A a ; B b WITHIN 5", []push{{"A-9223372036854775808:0,0", 0, "", "0: 0"}, {"B-9223372036854775808:0,0", 0, "0 1", "0: 0"}, {"B-9223372036854775803:0,0", 0, "0 2", "0: 0"}, {"B-9223372036854775802:0,0", 0, "", ""}}},
		{"A a ; B b WITHIN 5", []push{{"A9223372036854775801:0,0", 0, "", "0: 0"}, {"A9223372036854775802:0,0", 0, "", "0: 0; 0: 1"}, {"B9223372036854775806:0,0", 0, "0 2; 1 2", "0: 0; 0: 1"}, {"B9223372036854775807:0,0", 0, "1 3", "0: 1"}, {"B9223372036854775807:0,0", 0, "1 4", "0: 1"}, {"B9223372036854775806:0,0", api.ErrLate, "", "0: 1"}}},
		{"A a ; B b WITHIN 1000000000", []push{{"A-9223372036854775808:0,0", 0, "", "0: 0"}, {"B-9223372035854775808:0,0", 0, "0 1", "0: 0"}, {"B-9223372035854775807:0,0", 0, "", ""}}},
		{"A a ; B b WITHIN 1000000000", []push{{"A9223372035854775806:0,0", 0, "", "0: 0"}, {"A9223372035854775807:0,0", 0, "", "0: 0; 0: 1"}, {"B9223372036854775806:0,0", 0, "0 2; 1 2", "0: 0; 0: 1"}, {"B9223372036854775807:0,0", 0, "1 3", "0: 1"}}},
		// What is between has no room in 64 bits, or just room.
		{"A a ; B b WITHIN 1000000000", []push{{"A-9223372036854775808:0,0", 0, "", "0: 0"}, {"B9223372036854775807:0,0", 0, "", ""}}},
		{"A a ; B b WITHIN 1000000000", []push{{"A-9223372036854775808:0,0", 0, "", "0: 0"}, {"B0:0,0", 0, "", ""}}},
		{"A a ; B b WITHIN 1000000000", []push{{"A-9223372036854775808:0,0", 0, "", "0: 0"}, {"B-1:0,0", 0, "", ""}}},
		{"A a ; B b WITHIN 1000000000", []push{{"A-1000000000:0,0", 0, "", "0: 0"}, {"B0:0,0", 0, "0 1", "0: 0"}, {"B1:0,0", 0, "", ""}, {"A9223372036854775807:0,0", 0, "", "0: 3"}, {"B-9223372036854775808:0,0", api.ErrLate, "", "0: 3"}}},
	} {
		play(t, c.query, c.l)
	}
}

// P16.2: what a step asks of an event: its kind, its partition, its Pred.
func TestPushAsks(t *testing.T) {
	for _, c := range []struct {
		query string
		l     []push
	}{
		{"A a ; B b WITHIN 9 BY k", []push{{"A1:7,0", 0, "", "0: 0"}, {"A1:8,0", 0, "", "0: 0; 0: 1"}, {"B1:8,7", 0, "0 2", "0: 0; 0: 1"}, {"B1:7,8", 0, "1 3", "0: 0; 0: 1"}, {"B1:0,9", 0, "", "0: 0; 0: 1"}}},
		{"A a[a.x > 1] ; B b[b.y > a.x] WITHIN 9", []push{{"A1:0,1", 0, "", ""}, {"A1:0,2", 0, "", "0: 1"}, {"A1:0,5", 0, "", "0: 1; 0: 2"}, {"B1:2,0", 0, "", "0: 1; 0: 2"}, {"B1:3,0", 0, "1 4", "0: 1; 0: 2"}, {"B1:6,0", 0, "1 5; 2 5", "0: 1; 0: 2"}}},
		{"A a ; A a[a.x == 3] ; B b[b.y == a.x] WITHIN 9", []push{{"A1:0,1", 0, "", "0: 0"}, {"A1:0,3", 0, "", "0: 0; 0: 0 1; 0: 1"}, {"B1:1,0", 0, "", "0: 0; 0: 0 1; 0: 1"}, {"B1:3,0", 0, "0 1 3", "0: 0; 0: 0 1; 0: 1"}}},
		{"(A a | B b) ; D d[a.x == 1] WITHIN 9", []push{{"A1:0,1", 0, "", "0: 0"}, {"B1:0,1", 0, "", "0: 0; 1: 1"}, {"D1:0", 0, "0 2", "0: 0; 1: 1"}}},
		// What is bad matches nothing, and guards nothing.
		{"A a[1 / a.x == 1] ; !C c[1 / c.x == 1] ; B b WITHIN 9", []push{{"A1:0,0", 0, "", ""}, {"A1:0,1", 0, "", "0: 1"}, {"C1:0,0,0", 0, "", "0: 1"}, {"C1:2,0,0", 0, "", "0: 1"}, {"C1:1,0,0", 0, "", ""}}},
	} {
		play(t, c.query, c.l)
	}
}

// P16.2: what is refused, by which error, among others that are not.
func TestPushErrors(t *testing.T) {
	play(t, "A a ; !C c ; B b WITHIN 5", []push{
		{"A3:0,0", 0, "", "0: 0"},
		// A kind that is none, too few and too many V, too late; each at a time that would turn something.
		{"E4:0,0", api.ErrName, "", "0: 0"}, {"E99", api.ErrName, "", "0: 0"}, {"A4:0", api.ErrForm, "", "0: 0"}, {"C99:0,0", api.ErrForm, "", "0: 0"}, {"C4:0,0,0,0", api.ErrForm, "", "0: 0"}, {"B4", api.ErrForm, "", "0: 0"},
		{"A2:0,0", api.ErrLate, "", "0: 0"}, {"B2:0,0", api.ErrLate, "", "0: 0"}, {"C2:0,0,0", api.ErrLate, "", "0: 0"}, {"D-9223372036854775808:0", api.ErrLate, "", "0: 0"},
		// What does not fit is told ahead of what is late.
		{"E2", api.ErrName, "", "0: 0"}, {"A2", api.ErrForm, "", "0: 0"}, {"C-9:0", api.ErrForm, "", "0: 0"},
		// All that is the same as if they had not come: the time, the index, the runs.
		{"A3:0,0", 0, "", "0: 0; 0: 1"}, {"B3:0,0", 0, "0 2; 1 2", "0: 0; 0: 1"}, {"E3:0,0", api.ErrName, "", "0: 0; 0: 1"}, {"B8:0,0", 0, "0 3; 1 3", "0: 0; 0: 1"},
		{"B7:0,0", api.ErrLate, "", "0: 0; 0: 1"}, {"C7:0,0,0", api.ErrLate, "", "0: 0; 0: 1"}, {"B8:0", api.ErrForm, "", "0: 0; 0: 1"}, {"C8:0,0,0", 0, "", ""}, {"B8:0,0", 0, "", ""},
		// The last one that was pushed so counts, though it came to nothing.
		{"D20:0", 0, "", ""}, {"A19:0,0", api.ErrLate, "", ""}, {"A20:0,0", 0, "", "0: 7"}, {"B19:0,0", api.ErrLate, "", "0: 7"}, {"B20:0,0", 0, "7 8", "0: 7"},
	})
	for _, wrong := range misfits() {
		x := begun(t, "(A a ; !A g ; B b | C c ; D d) WITHIN 5")
		for at, e := range read(t, "A1:0,0 C2:0,0,0 A3:0,0 B3:0,0 D4:0") {
			before := show(x.Runs())
			want := api.ErrForm
			if wrong.Kind < 0 || wrong.Kind > 3 {
				want = api.ErrName
			}
			if told, e := x.Push(wrong); told != nil || e != want || x.Next() != at || show(x.Runs()) != before {
				t.Errorf("Push(%v) tells %q, %d; Next %d, runs %q; want %d, %d, %q", wrong, put(told), e, x.Next(), show(x.Runs()), want, at, before)
			}
			told, _ := x.Push(e)
			if want := []string{"", "", "", "2 3", "1 4"}[at]; put(told) != want {
				t.Errorf("behind %v: %d tells %q; want %q", wrong, at, put(told), want)
			}
		}
	}
}

// misfits: what fits none of kinds, at times that are late, and are not.
func misfits() (told []wire.Event) {
	for _, at := range []int64{least, 0, 3, 1000, most} {
		for _, kind := range []int{-1, 4, 5, 255, 256, 1 << 32, -1 << 32, math.MinInt, math.MaxInt} {
			told = append(told, wire.Event{Kind: kind, Time: at}, wire.Event{Kind: kind, Time: at, V: make([]int64, 2)}, wire.Event{Kind: kind, Time: at, V: make([]int64, 3)})
		}
		for kind, k := range kinds() {
			for n := range 10 {
				if n != len(k.Fields) {
					told = append(told, wire.Event{Kind: kind, Time: at, V: make([]int64, n)})
				}
			}
		}
	}
	return append(told, wire.Event{Kind: 2, V: make([]int64, 100000)})
}

// P16.3: all of each run, in order.
func TestRuns(t *testing.T) {
	x := begun(t, "(A a ; B b ; D d | A a ; C c ; D d) WITHIN 9")
	l := read(t, "A1:-1,2 B2:3,4 E2 C3:5,6,7 A2:0,0 D3:8")
	for _, e := range l {
		x.Push(e)
	}
	want := []step.Run{
		{Path: 0, At: 1, Tuple: []int{0}, Events: l[:1]}, {Path: 1, At: 1, Tuple: []int{0}, Events: l[:1]},
		{Path: 0, At: 2, Tuple: []int{0, 1}, Events: l[:2]}, {Path: 1, At: 2, Tuple: []int{0, 2}, Events: []wire.Event{l[0], l[3]}},
	}
	for range 3 {
		if got := x.Runs(); !slices.EqualFunc(got, want, same) || x.Next() != 4 {
			t.Errorf("Runs() = %+v; want %+v; Next %d", got, want, x.Next())
		}
	}
}

// same: are all fields the same, one by one?
func same(a, b step.Run) bool {
	return a.Path == b.Path && a.At == b.At && slices.Equal(a.Tuple, b.Tuple) && slices.EqualFunc(a.Events, b.Events, wire.Same)
}

// P16.3: what is told of each, in order, each once.
func TestAll(t *testing.T) {
	for _, c := range []struct{ query, events, want string }{
		{"A a ; B b WITHIN 5", "A1:0,0 B3:0,0 B9:0,0", "0 1"},
		{"A a ; B b WITHIN 5", "", ""}, {"A a ; B b WITHIN 5", "B1:0,0 A1:0,0", ""},
		{"A a WITHIN 5", "A1:0,0 B1:0,0 A9:0,0", "0; 2"},
		// What is told by a later event may stand ahead.
		{"A a ; B b WITHIN 5", "A1:0,0 A2:0,0 B3:0,0 B4:0,0", "0 2; 0 3; 1 2; 1 3"},
		{"(A a | A b ; B c ; C d) WITHIN 5", "A1:0,0 B1:0,0 A2:0,0 C3:0,0,0", "0; 0 1 3; 2"},
		{"(D d ; A a ; B b | C c ; D d) WITHIN 5", "D1:0 C2:0,0,0 A2:0,0 D2:0 B3:0,0", "0 2 4; 1 3"},
		{"A a{1,3} WITHIN 5", "A1:0,0 A2:0,0 A3:0,0", "0; 0 1; 0 1 2; 0 2; 1; 1 2; 2"},
		{"(A a | A b) ; (B c{1,2} | B d) WITHIN 5", "A1:0,0 B2:0,0 B3:0,0", "0 1; 0 1 2; 0 2"},
		{"A a ; !C c ; B b WITHIN 5", "A1:0,0 A2:0,0 B3:0,0 C4:0,0,0 B5:0,0 A5:0,0 B6:0,0", "0 2; 1 2; 5 6"},
		// What is refused is nothing: it is in no tuple, guards nothing, expires nothing, and has no index.
		{"A a ; B b WITHIN 5", "A5:0,0 E6 B4:0,0 B6:0,0 A6:0,0 B6:0,0", "0 1; 0 3; 2 3"},
		{"A a ; !C c ; B b WITHIN 5", "E0 B0 A3:0,0 C2:0,0,0 C3:0,0 C99 E99 B1:0,0 B8:0,0 A7:0,0 A8:0,0 C7:0,0,0 B9:0,0", "0 1; 2 3"},
		{"A a ; B b WITHIN 5", "E1 A1 B1 E2:0,0 A3:0 B4:0,0,0", ""},
		{"A a WITHIN 0", "A9:0,0 A8:0,0 A7:0,0 A9:0,0 A8:0,0 A10:0,0 A9:0,0", "0; 1; 2"},
		{"A a ; B b WITHIN 5", "A9223372036854775807:0,0 B-9223372036854775808:0,0 B9223372036854775807:0,0", "0 1"},
		{"A a ; B b WITHIN 5", "A-9223372036854775808:0,0 B9223372036854775807:0,0 A-9223372036854775808:0,0 B-9223372036854775807:0,0", ""},
	} {
		told, e := exact.All(kinds(), parsed(t, c.query), read(t, c.events))
		if put(told) != c.want || e != api.OK {
			t.Errorf("All(%q, %q) = %q, %d; want %q", c.query, c.events, put(told), e, c.want)
		}
	}
	for _, l := range [][]wire.Event{nil, {}, misfits()} {
		if told, e := exact.All(kinds(), parsed(t, "(A a | B b | C c | D d) WITHIN 5"), l); len(told) != 0 || e != api.OK {
			t.Errorf("All of nothing that fits = %q, %d", put(told), e)
		}
	}
}
