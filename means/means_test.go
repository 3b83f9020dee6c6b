package means_test

import (
	"fmt"
	"math"
	"math/big"
	"slices"
	"strings"
	"testing"

	"jettison/api"
	"jettison/check"
	"jettison/expr"
	"jettison/means"
	"jettison/parse"
	"jettison/path"
	"jettison/pattern"
	"jettison/schema"
	"jettison/value"
	"jettison/wire"
)

// kinds: what the queries of the tests are held against. All have k, though not in one place; there is no E.
func kinds() []schema.Kind {
	return []schema.Kind{{Name: "A", Fields: []string{"k", "x"}}, {Name: "B", Fields: []string{"y", "k"}}, {Name: "C", Fields: []string{"x", "y", "k"}}, {Name: "D", Fields: []string{"k"}}}
}

func parsed(t *testing.T, text string) pattern.Query {
	t.Helper()
	q, at, e := parse.Parse(text)
	if e != api.OK {
		t.Fatalf("Parse(%q): %d at %d", text, e, at)
	}
	return q
}

// events are told in words: a kind, its time, and, behind a :, its numbers with , between. What is no kind's name is a
// number that is none's.
func events(t *testing.T, text string) (told []wire.Event) {
	t.Helper()
	for _, word := range strings.Fields(text) {
		head, numbers, _ := strings.Cut(word, ":")
		e := wire.Event{Kind: strings.Index("ABCD", head[:1])}
		if n, err := fmt.Sscan(head[1:], &e.Time); n != 1 {
			t.Fatalf("%q: %v", word, err)
		}
		for _, digits := range strings.FieldsFunc(numbers, func(r rune) bool { return r == ',' }) {
			var n int64
			if _, err := fmt.Sscan(digits, &n); err != nil {
				t.Fatalf("%q: %v", word, err)
			}
			e.V = append(e.V, n)
		}
		told = append(told, e)
	}
	return told
}

// put: tuples as a text, 0 1; 0 2.
func put(l [][]int) string {
	var told []string
	for _, one := range l {
		told = append(told, strings.Trim(fmt.Sprint(one), "[]"))
	}
	return strings.Join(told, "; ")
}

// meant of a query that may be.
func meant(t *testing.T, text string, l []wire.Event) string {
	t.Helper()
	told, e := means.M(kinds(), parsed(t, text), l)
	if e != api.OK {
		t.Fatalf("M(%q): %d", text, e)
	}
	return put(told)
}

// seq: numbers that look like chance, and are the same each time.
type seq uint64

func (s *seq) below(n int) int {
	*s = *s*6364136223846793005 + 1442695040888963407
	return int(uint64(*s>>33) % uint64(n))
}

// ends: numbers at and next to the ends of 64 bits, of a window, and of nothing.
func ends() (told []int64) {
	for _, n := range []int64{math.MinInt64, math.MinInt64 / 2, -1000000000, 0, 5, 1000000000, math.MaxInt64 / 2, math.MaxInt64} {
		for step := int64(-2); step <= 2; step++ {
			// What wraps here is only another end.
			told = append(told, n+step)
		}
	}
	return told
}

// isNear by numbers that have no end.
func isNear(first, now, within int64) bool {
	gone := new(big.Int).Sub(big.NewInt(now), big.NewInt(first))
	return gone.IsInt64() && gone.Cmp(big.NewInt(within)) <= 0
}

// P13.1: written out.
func TestNear(t *testing.T) {
	const least, most = math.MinInt64, math.MaxInt64
	for _, c := range []struct {
		first, now, within int64
		want               bool
	}{
		{0, 0, 0, true}, {7, 7, 0, true}, {7, 8, 0, false}, {7, 8, 1, true}, {1, 6, 5, true}, {1, 7, 5, false},
		// What is ahead of the first one is near it, unless the difference has no room, or the window is below 0.
		{7, 6, 0, true}, {7, -100, 0, true}, {7, 6, -1, true}, {7, 6, -2, false}, {7, 7, -1, false}, {0, least, 0, true}, {1, least, 0, false}, {0, least, least, true}, {1, least + 1, least, true},
		{-5, 0, 5, true}, {-5, 1, 5, false}, {-5, 1, 6, true},
		// The ends of 64 bits.
		{0, most, most, true}, {0, most, most - 1, false}, {-1, most, most, false}, {-1, most - 1, most, true}, {least, -1, most, true}, {least, 0, most, false}, {least, most, most, false}, {most, least, most, false}, {most, least, least, false}, {most, -1, most, true}, {most, -2, most, false},
		{least, least, 0, true}, {least, least + 1, 0, false}, {least, least + 1, 1, true}, {most, most, 0, true}, {most - 1, most, 0, false}, {most - 1, most, 1, true}, {most, most, least, false}, {least, least, least, false},
		{most - 1000000000, most, 1000000000, true}, {most - 1000000001, most, 1000000000, false}, {least, least + 1000000000, 1000000000, true}, {least, least + 1000000001, 1000000000, false},
	} {
		if got := means.Near(c.first, c.now, c.within); got != c.want || isNear(c.first, c.now, c.within) != c.want {
			t.Errorf("Near(%d, %d, %d) = %v; want %v", c.first, c.now, c.within, got, c.want)
		}
	}
}

// P13.1: all threes of ends.
func TestNearAtAllEnds(t *testing.T) {
	for _, first := range ends() {
		for _, now := range ends() {
			for _, within := range ends() {
				if got, want := means.Near(first, now, within), isNear(first, now, within); got != want {
					t.Errorf("Near(%d, %d, %d) = %v; want %v", first, now, within, got, want)
				}
			}
		}
	}
}

// P13.2: what each kind of item adds, written out.
func TestM(t *testing.T) {
	l := events(t, "A1:0,1 A2:0,2 B3:5,0 C4:1,9,0 A5:0,3 B6:2,0 D7:0")
	for text, want := range map[string]string{
		// A One: of its kind, behind those of the tuple, of whatever stands between.
		"A a": "0; 1; 4", "B b": "2; 5", "C c": "3", "D d": "6",
		"A a ; B b": "0 2; 0 5; 1 2; 1 5; 4 5", "B b ; A a": "2 4", "A a ; A a": "0 1; 0 4; 1 4", "A a ; A b ; A c": "0 1 4", "D d ; A a": "", "D d ; D d": "", "A a ; A b ; A c ; A d": "",
		"A a ; C c ; D d": "0 3 6; 1 3 6",
		// A Times: the least, the most, and all between.
		"A a{1,1}": "0; 1; 4", "A a{2,2}": "0 1; 0 4; 1 4", "A a{3,3}": "0 1 4", "A a{4,4}": "", "A a{1,2}": "0; 0 1; 0 4; 1; 1 4; 4", "A a{2,3}": "0 1; 0 1 4; 0 4; 1 4", "A a{1,4}": "0; 0 1; 0 1 4; 0 4; 1; 1 4; 4", "A a{3,4}": "0 1 4", "A a{2,4}": "0 1; 0 1 4; 0 4; 1 4",
		"A a{1,2} ; B b": "0 1 2; 0 1 5; 0 2; 0 4 5; 0 5; 1 2; 1 4 5; 1 5; 4 5", "C c ; B b{1,2}": "3 5", "A a{2,2} ; B b{2,2}": "0 1 2 5",
		// An Alt: each of its Kids, each tuple once.
		"(A a | C c)": "0; 1; 3; 4", "(C c | A a)": "0; 1; 3; 4", "(A a | A b)": "0; 1; 4", "(A a ; A b | C c)": "0 1; 0 4; 1 4; 3", "(D d | C c | D e)": "3; 6",
		"(A a | B b) ; (C c | D d)": "0 3; 0 6; 1 3; 1 6; 2 3; 2 6; 4 6; 5 6", "(A a | A b{1,2} | (A c ; A d | A e{2,3}))": "0; 0 1; 0 1 4; 0 4; 1; 1 4; 4", "(A a ; B b | C c) ; D d": "0 2 6; 0 5 6; 1 2 6; 1 5 6; 3 6; 4 5 6",
		"B b ; (C c ; (A a | B d) | D e) ; D f": "2 3 4 6; 2 3 5 6",
		// A Not: nothing of it between, at the ends there may be.
		"A a ; !C c ; B b": "0 2; 1 2; 4 5", "A a ; !A b ; B b": "1 2; 4 5", "A a ; !B c ; B b": "0 2; 1 2; 4 5", "A a ; !D d ; B b": "0 2; 0 5; 1 2; 1 5; 4 5", "B b ; !A a ; B c": "", "B b ; !D d ; B c": "2 5", "A a ; !B b ; A c": "0 1",
		"A a ; !C c ; !A b ; B b": "1 2; 4 5", "A a ; !A b ; !C c ; B b": "1 2; 4 5", "A a ; !C c ; !C d ; B b": "0 2; 1 2; 4 5",
		"A a ; !B b ; C c ; D d": "", "A a ; B b ; !A c ; D d": "0 5 6; 1 5 6; 4 5 6", "A a ; B b ; !B c ; D d": "0 5 6; 1 5 6; 4 5 6",
	} {
		if got := meant(t, text+" WITHIN 9", l); got != want {
			t.Errorf("%q means %q; want %q", text, got, want)
		}
	}
}

// P13.2: what a guard is of, and what it is not of.
func TestMGuards(t *testing.T) {
	for _, c := range []struct{ items, events, want string }{
		// Between the last event of the tuple and the next one alone.
		{"A a ; !C c ; B b", "C0:1,1,0 A1:0,1 B2:1,0 C3:1,1,0", "1 2"},
		{"A a ; !C c ; B b", "A1:0,1 C2:1,1,0 B3:1,0", ""},
		{"A a ; !C c ; B b", "A1:0,1 B2:1,0 C3:1,1,0 B4:1,0 A5:0,1 B6:1,0", "0 1; 4 5"},
		{"D d ; A a ; !C c ; B b", "D0:0 C1:1,1,0 A2:0,1 B3:1,0", "0 2 3"},
		{"A a ; !C c ; B b ; D d", "A1:0,1 B2:1,0 C3:1,1,0 D4:0", "0 1 3"},
		// Of the first event that a Times adds, not of those behind it, nor of what comes behind a Times ahead.
		{"A a ; !C c ; B b{2,2}", "A1:0,1 B2:1,0 C3:1,1,0 B4:1,0", "0 1 3"},
		{"A a ; !C c ; B b{1,2}", "A1:0,1 C2:1,1,0 B3:1,0 B4:1,0", ""},
		{"A a{1,2} ; !C c ; B b", "A1:0,1 C2:1,1,0 A3:0,1 B4:1,0", "0 2 3; 2 3"},
		// What guards one may be of its own kind, of that of the one ahead, or the last one that could be added.
		{"A a ; !B c ; B b", "A1:0,1 B2:1,0 B3:1,0", "0 1"},
		{"A a ; !A c ; B b", "A1:0,1 A2:0,1 B3:1,0", "1 2"},
		{"A a ; !A c ; A b", "A1:0,1 A2:0,1 A3:0,1", "0 1; 1 2"},
		// Of each Kid of an Alt, of the next item behind one.
		{"A a ; !C c ; (B b | D d)", "A1:0,1 B2:1,0 C3:1,1,0 B4:1,0 D5:0", "0 1"},
		{"A a ; !C c ; (B b ; D d | D e)", "A1:0,1 B2:1,0 C3:1,1,0 D4:0", "0 1 3"},
		{"(A a | B b) ; !C c ; D d", "A1:0,1 C2:1,1,0 B3:1,0 D4:0", "2 3"},
		{"A a ; (B b ; !C c ; B d | D d) ; B e", "A1:0,1 B2:1,0 C3:1,1,0 B4:1,0 D5:0 B5:1,0 B6:1,0", "0 3 5 6; 0 4 5; 0 4 6"},
		{"A a ; !C c ; (!D d ; B b | B b)", "", "error"},
		// What guards may be of any time, be it ahead of all, or past the window.
		{"A a ; !C c ; B b", "A5:0,1 C-9:1,1,0 B6:1,0", ""},
		{"A a ; !C c ; B b", "A5:0,1 C99:1,1,0 B6:1,0", ""},
		{"A a ; !C c ; B b", "A-9000000000000000000:0,1 C9000000000000000000:1,1,0 B-9000000000000000000:1,0", ""},
		// What does not fit guards nothing.
		{"A a ; !C c ; B b", "A1:0,1 C2:1,1 C2:1,1,0,0 C2 E2:1,1,0 B3:1,0", "0 5"},
		// Its Pred holds of what is bound, and of itself.
		{"A a ; !C c[c.x == 1] ; B b", "A1:0,1 C2:2,1,0 B3:1,0 C4:1,1,0 B5:1,0", "0 2"},
		{"A a ; !C c[c.x > a.x] ; B b", "A1:0,1 C2:1,1,0 B3:1,0 C4:2,1,0 B5:1,0", "0 2"},
		{"A a ; !A a[a.x == 2] ; B b", "A1:0,2 A2:0,1 B3:1,0 A4:0,2 B5:1,0", "0 2; 1 2; 3 4"},
		{"A a ; !C c[1 / c.x == 0] ; B b", "A1:0,1 C2:0,1,0 B3:1,0 C4:2,1,0 B5:1,0", "0 2"},
		{"A a ; !C c[1 == 2] ; !D d[1 == 1] ; B b", "A1:0,1 C2:0,1,0 B3:1,0 D4:0 B5:1,0", "0 2"},
		// What it is held against is what is bound ahead of it: not the event that it would guard, whose Var is bound already.
		{"B b ; A a ; !C c[c.y == b.y] ; B b", "B1:7,0 A2:0,1 C3:1,7,0 B4:9,0", ""},
		{"B b ; A a ; !C c[c.y == b.y] ; B b", "B1:7,0 A2:0,1 C3:1,9,0 B4:9,0", "0 1 3"},
		// What one guard is bound to is gone for the next, and behind it.
		{"A a ; !A a[a.x == 9] ; !B b[b.y == a.x] ; C c[c.x == a.x]", "A1:0,1 A2:0,2 B3:2,0 C4:1,0,0", "0 3"},
	} {
		if c.want == "error" {
			if told, e := means.M(kinds(), parsed(t, c.items+" WITHIN 5"), nil); told != nil || e != api.ErrArg {
				t.Errorf("%q means %q, %d", c.items, put(told), e)
			}
			continue
		}
		if got := meant(t, c.items+" WITHIN 5", events(t, c.events)); got != c.want {
			t.Errorf("%q means of %q %q; want %q", c.items, c.events, got, c.want)
		}
	}
}

// P13.2: Preds, and what is bound.
func TestMPreds(t *testing.T) {
	l := events(t, "A1:0,1 A2:0,2 B3:5,0 C4:1,9,0 A5:0,3 B6:2,0 D7:0")
	for text, want := range map[string]string{
		"A a[a.x > 1]": "1; 4", "A a[a.x > 1 && a.k == 0]": "1; 4", "A a[a.x == a.x]": "0; 1; 4", "A a[1 == 2]": "", "A a[0 == a.k]": "0; 1; 4",
		"A a ; B b[b.y > a.x]": "0 2; 0 5; 1 2", "A a ; B b[b.y == a.x]": "1 5", "A a[a.x < 3] ; A b[b.x == a.x + 1] ; B c[c.y == a.x + b.x]": "",
		"A a ; A b[b.x == a.x + 1] ; B c[c.y * 2 == a.x + b.x + 1]": "0 1 5",
		// A Times: each of them, its Var bound to it, and behind it to the last one.
		"A a{2,2}[a.x < 3]": "0 1", "A a{1,3}[a.x != 2]": "0; 0 4; 4", "A a{2,2} ; B b[b.y == a.x]": "0 1 5", "A a{1,2} ; B b[b.y == a.x + 1]": "0 5",
		// A Var that is bound again is the last one's, its own event's ahead of all.
		"A a ; A a[a.x == 3]": "0 4; 1 4", "A a ; A a ; B b[b.y == a.x]": "0 1 5", "A a ; C a ; B b[b.y == a.x]": "", "A b ; C b ; B c[c.y == b.x + 1]": "0 3 5; 1 3 5", "A a ; B a[a.y == 5]": "0 2; 1 2",
		// An Alt: what its other Kid would bind is not bound, so it is bad; and what is bad holds not, nor does its contrary.
		"(A a | B b) ; D d[a.x == 1]": "0 6", "(A a | B b) ; D d[!(a.x == 1)]": "1 6; 4 6", "(A a | A b) ; D d[a.x == 1 || b.x == 2]": "0 6", "(A a | C c) ; D d[c.y == 9]": "3 6", "(A a | C a) ; D d[a.x == 1]": "0 6; 3 6",
		"A a ; (B b | C b) ; D d[b.y > 4 && a.x == 2]": "1 2 6; 1 3 6",
		// Bad: beyond 64 bits, by 0.
		"A a[a.x * 9223372036854775807 > 0]": "0", "A a[!(a.x * 9223372036854775807 > 0)]": "", "A a[1 / (a.x - 1) == 0]": "4", "A a[a.x == 1 || 1 / (a.x - 1) == 0]": "0; 4",
	} {
		if got := meant(t, text+" WITHIN 9", l); got != want {
			t.Errorf("%q means %q; want %q", text, got, want)
		}
	}
}

// P13.2: the window is that of the first event, at both ends of 64 bits.
func TestMWithin(t *testing.T) {
	for _, c := range []struct{ query, events, want string }{
		{"A a ; B b WITHIN 5", "A1:0,1 B3:1,0 B9:1,0", "0 1"},
		{"A a ; B b WITHIN 5", "A1:0,1 B6:1,0 B7:1,0", "0 1"},
		{"A a ; B b WITHIN 0", "A1:0,1 B1:1,0 B2:1,0", "0 1"},
		{"A a ; B b ; D d WITHIN 5", "A1:0,1 B5:1,0 D6:0 D7:0", "0 1 2"},
		{"A a{2,3} WITHIN 4", "A0:0,1 A3:0,1 A5:0,1 A7:0,1", "0 1; 1 2; 1 2 3; 1 3; 2 3"},
		// Of any order: what is ahead of the first one in time is near it.
		{"A a ; B b WITHIN 0", "B9:1,0 A5:0,1 B6:1,0 B5:1,0 B4:1,0 B-7:1,0", "1 3; 1 4; 1 5"},
		{"A a ; B b ; D d WITHIN 1", "A5:0,1 B4:1,0 D6:0 D7:0", "0 1 2"},
		{"A a ; B b WITHIN 0", "A0:0,1 B-9223372036854775808:1,0", "0 1"},
		{"A a ; B b WITHIN 0", "A1:0,1 B-9223372036854775808:1,0", ""},
		{"A a ; B b WITHIN 1000000000", "A-9223372036854775808:0,1 B-9223372035854775808:1,0 B-9223372035854775807:1,0 B0:1,0 B9223372036854775807:1,0", "0 1"},
		{"A a ; B b WITHIN 1000000000", "A9223372035854775807:0,1 B9223372036854775807:1,0 B-9223372036854775808:1,0", "0 1"},
		{"A a ; B b WITHIN 1000000000", "A9223372035854775806:0,1 B9223372036854775807:1,0 B9223372036854775806:1,0", "0 2"},
		{"A a WITHIN 0", "A-9223372036854775808:0,1 A9223372036854775807:0,1", "0; 1"},
	} {
		if got := meant(t, c.query, events(t, c.events)); got != c.want {
			t.Errorf("%q means of %q %q; want %q", c.query, c.events, got, c.want)
		}
	}
}

// P13.1, P13.2: partitions are of the first event, of whatever kind, by the number of that kind's field.
func TestMBy(t *testing.T) {
	for _, c := range []struct{ query, events, want string }{
		{"A a ; B b WITHIN 9 BY k", "A1:7,1 A2:8,1 B3:1,7 B4:7,8", "0 2; 1 3"},
		{"A a ; B b WITHIN 9", "A1:7,1 A2:8,1 B3:1,7 B4:7,8", "0 2; 0 3; 1 2; 1 3"},
		{"A a WITHIN 9 BY k", "A1:7,1 A2:8,1", "0; 1"},
		{"(A a | B b | C c) ; D d WITHIN 9 BY k", "A1:7,1 B2:1,7 B2:7,1 C3:7,7,8 C4:8,8,7 D5:7", "0 5; 1 5; 4 5"},
		{"A a{2,2} WITHIN 9 BY k", "A1:7,1 A2:8,1 A3:7,2 A4:8,3", "0 2; 1 3"},
		{"A a ; B b ; A c WITHIN 9 BY k", "A1:7,1 B2:1,7 A3:8,1 A4:7,1", "0 1 3"},
		{"A a ; C c WITHIN 9 BY x", "A1:7,1 C2:1,2,3 C3:7,7,7 A4:0,7 C5:7,0,0", "0 1; 3 4"},
		{"A a ; B b WITHIN 9 BY k", "A1:-9223372036854775808,1 A2:9223372036854775807,1 B3:1,-9223372036854775808 B4:1,0 B5:1,9223372036854775807", "0 2; 1 4"},
		{"A a ; B b WITHIN 9 BY k", "A1:0,1 B2:1,0 B3:1,1", "0 1"},
		// What guards must be of that partition too.
		{"A a ; !C c ; B b WITHIN 9 BY k", "A1:7,1 A2:8,1 C3:7,7,8 B4:1,7 B5:1,8", "0 3"},
		{"A a ; !C c ; B b WITHIN 9", "A1:7,1 A2:8,1 C3:7,7,8 B4:1,7 B5:1,8", ""},
		{"A a ; B b ; !C c ; B d WITHIN 9 BY k", "A1:7,1 B2:1,7 C3:7,7,8 B4:8,7 C5:8,8,7 B6:1,7", "0 1 3"},
		{"A a ; !C c[c.y == 1] ; B b WITHIN 9 BY k", "A1:7,1 C3:7,1,8 C3:7,2,7 B4:1,7 C5:7,1,7 B6:1,7", "0 3"},
	} {
		if got := meant(t, c.query, events(t, c.events)); got != c.want {
			t.Errorf("%q means of %q %q; want %q", c.query, c.events, got, c.want)
		}
	}
	// Kinds that the query does not name need not have the field.
	s := []schema.Kind{{Name: "A", Fields: []string{"x", "z"}}, {Name: "B"}, {Name: "C", Fields: []string{"y"}}}
	l := []wire.Event{{Kind: 1}, {Kind: 0, V: []int64{1, 2}}, {Kind: 1}, {Kind: 2, V: []int64{2}}, {Kind: 0, V: []int64{2, 2}}, {Kind: 0, V: []int64{2, 3}}}
	if told, e := means.M(s, parsed(t, "A a ; !A b[b.x == a.x] ; A c WITHIN 9 BY z"), l); put(told) != "1 4" || e != api.OK {
		t.Errorf("M by what other kinds have not: %q, %d", put(told), e)
	}
}

// wrongEvents: what fits none of kinds.
func wrongEvents() (told []wire.Event) {
	for _, kind := range []int{-1, 4, 5, 255, 256, 1 << 32, -1 << 32, math.MinInt, math.MaxInt} {
		told = append(told, wire.Event{Kind: kind}, wire.Event{Kind: kind, V: make([]int64, 1)}, wire.Event{Kind: kind, V: make([]int64, 2)}, wire.Event{Kind: kind, V: make([]int64, 3)})
	}
	for kind, k := range kinds() {
		for n := range 10 {
			if n != len(k.Fields) {
				told = append(told, wire.Event{Kind: kind, V: make([]int64, n)})
			}
		}
	}
	return append(told, wire.Event{Kind: 2, V: make([]int64, 100000)})
}

// P13.2, P13.4: what does not fit is in no tuple, and guards nothing, in whichever place.
func TestMWrongEvents(t *testing.T) {
	for _, text := range []string{"A a", "(A a | B b | C c | D d)", "A a ; !C c ; B b", "A a ; !A c ; !B d ; !C e ; !D f ; D b", "A a{1,2} ; (B b | C c)"} {
		for _, by := range []string{"", " BY k"} {
			if got := meant(t, text+" WITHIN 9"+by, wrongEvents()); got != "" {
				t.Errorf("%q%s means %q of what is wrong", text, by, got)
			}
		}
	}
	for _, wrong := range wrongEvents() {
		l := []wire.Event{wrong, {Kind: 0, V: []int64{0, 0}}, wrong, {Kind: 1, V: []int64{0, 0}}, wrong}
		for text, want := range map[string]string{"(A a | B b | C c | D d)": "1; 3", "A a ; B b": "1 3", "A a ; !A c ; !B d ; !C e ; !D f ; B b": "1 3"} {
			for _, by := range []string{"", " BY k"} {
				if got := meant(t, text+" WITHIN 9"+by, l); got != want {
					t.Errorf("%q%s means %q, with %v; want %q", text, by, got, wrong, want)
				}
			}
		}
	}
}

// wrongSchemas: each with the error that it has.
func wrongSchemas() map[api.Errno][][]schema.Kind {
	many := make([]schema.Kind, 17)
	for at := range many {
		many[at].Name = string(rune('A' + at))
	}
	return map[api.Errno][][]schema.Kind{
		api.ErrLimit: {nil, {}, many, {{Name: "A", Fields: make([]string, 9)}}, append(kinds(), schema.Kind{Name: "E", Fields: strings.Split("a,b,c,d,e,f,g,h,i", ",")})},
		api.ErrName:  {{{}}, append(kinds(), schema.Kind{Name: "A"}), append(kinds(), schema.Kind{Name: "BY"}), append(kinds(), schema.Kind{Name: "E", Fields: []string{"x", "x"}}), {{Name: "A", Fields: []string{"9"}}}},
	}
}

// P13.2, P2: the error of Check, and no tuples, whatever the events are.
func TestMErrors(t *testing.T) {
	l := events(t, "A1:0,1 A2:0,2 B3:5,0 C4:1,9,0 E4 A5:0,3 B6:2,0 D7:0")
	ask := func(s []schema.Kind, q pattern.Query, want api.Errno) {
		t.Helper()
		for _, one := range [][]wire.Event{nil, l, wrongEvents()} {
			if told, e := means.M(s, q, one); told != nil || e != want {
				t.Errorf("M(%q, %+v) is told as %q, %d; want %d", schema.Put(s), q, put(told), e, want)
			}
		}
	}
	for text, want := range map[string]api.Errno{
		"!A a": api.ErrArg, "A a ; !B b": api.ErrArg, "!B b ; A a": api.ErrArg, "(A a | !B b ; A c)": api.ErrArg, "A a ; (B b ; !C c | A a) ; A d": api.ErrArg, "(A a | A a ; !C c)": api.ErrArg,
		"E e": api.ErrName, "A a ; !E e ; B b": api.ErrName, "(A a | E e)": api.ErrName, "A a[a.y < 1]": api.ErrName, "A a[b.y < 1] ; B b": api.ErrName, "A a ; !B b ; C c[b.y < 1]": api.ErrName, "A a ; B a ; C c[a.x < 1]": api.ErrName,
		"A a[1]": api.ErrType, "A a ; !B b[b.y] ; C c": api.ErrType, "(A a | B b{1,3}[-b.y])": api.ErrType,
		"A a{1,4} ; A b{1,4} ; A c{1,3}": api.ErrLimit, "A a{4,4} ; A b{4,4} ; A c{4,4} ; A d": api.ErrLimit, "A a[1" + strings.Repeat(" + 1", 127) + " < 1]": api.ErrLimit,
		// Several at once.
		"!E e[1]": api.ErrArg, "A a{1,4}[1] ; A b{1,4} ; A c{1,4}": api.ErrLimit, "A a[1] ; E e": api.ErrType, "E e ; A a[1]": api.ErrName,
	} {
		ask(kinds(), parsed(t, text+" WITHIN 5"), want)
	}
	for by, want := range map[string]api.Errno{"x": api.ErrName, "y": api.ErrName, "a": api.ErrName, "k": api.ErrType} {
		ask(kinds(), parsed(t, "A a ; B b ; C c[1] WITHIN 5 BY "+by), want)
	}
	a := pattern.Item{Kind: pattern.One, Name: "A", Var: "a"}
	for _, q := range []pattern.Query{
		{}, {Items: []pattern.Item{}}, {Items: []pattern.Item{{}}}, {Items: []pattern.Item{a}, Within: -1}, {Items: []pattern.Item{a}, Within: 1000000001}, {Items: []pattern.Item{a}, Within: math.MinInt64}, {Items: []pattern.Item{a}, Within: math.MaxInt64}, {Items: []pattern.Item{a}, By: "9"},
		{Items: []pattern.Item{{Kind: 4, Name: "A", Var: "a"}}}, {Items: []pattern.Item{{Kind: -1, Name: "A", Var: "a"}}}, {Items: []pattern.Item{{Kind: pattern.Times, Name: "A", Var: "a"}}}, {Items: []pattern.Item{{Kind: pattern.Times, Name: "A", Var: "a", Low: math.MinInt, High: math.MaxInt}}}, {Items: []pattern.Item{{Kind: pattern.Times, Name: "A", Var: "a", Low: 0, High: 1}}}, {Items: []pattern.Item{{Kind: pattern.Times, Name: "A", Var: "a", Low: 2, High: 1}}},
		{Items: []pattern.Item{{Kind: pattern.Alt}}}, {Items: []pattern.Item{{Kind: pattern.Alt, Kids: make([][]pattern.Item, 2)}}}, {Items: []pattern.Item{{Kind: pattern.Alt, Kids: [][]pattern.Item{{a}}}}}, {Items: []pattern.Item{{Name: "A", Var: "a", Pred: make([]expr.Expr, 2)}}}, {Items: []pattern.Item{{Name: "A", Var: "a", Pred: []expr.Expr{{Kind: 9}}}}},
	} {
		ask(kinds(), q, api.ErrArg)
	}
	ask(kinds(), pattern.Query{Items: slices.Repeat([]pattern.Item{a}, 13)}, api.ErrLimit)
	for want, l := range wrongSchemas() {
		for _, s := range l {
			for _, q := range []pattern.Query{{}, {Items: []pattern.Item{a}}, {Items: []pattern.Item{{Kind: pattern.Not, Name: "E", Var: "e"}}, Within: -1}, {Items: slices.Repeat([]pattern.Item{a}, 13)}} {
				ask(s, q, want)
			}
		}
	}
}

// P13.2: no events, and as many steps, paths and kinds as there may be.
func TestMLimits(t *testing.T) {
	if got := meant(t, "A a WITHIN 5", nil) + meant(t, "A a WITHIN 5", []wire.Event{}); got != "" {
		t.Errorf("of nothing: %q", got)
	}
	as := slices.Repeat([]wire.Event{{V: []int64{0, 1}}}, 13)
	for text, want := range map[string]int{
		"A a{4,4} ; A b{4,4} ; A c{4,4}": 13, "A a{4,4} ; A b{4,4} ; A c{3,3}": 78, "A a ; A a ; A a ; A a ; A a ; A a ; A a ; A a ; A a ; A a ; A a ; A a": 13,
		// Of 32 paths with 3 to 10 steps each tuple is told once.
		"A a{1,4} ; A b{1,4} ; A c{1,2}": 1<<13 - 1 - 13 - 78 - 78 - 13 - 1, "(A a | A b | A c | A d | A e | A f | A g | A h | A i | A j | A k)": 13,
		"A a ; !B b ; !B c ; !B d ; !B e ; !B f ; !B g ; !B h ; !B i ; !B j ; !B k ; A l": 78,
		"A a ; !B b ; !B c ; !B d ; !B e ; !B f ; !B g ; !B h ; !B i ; !B j ; !A k ; A l": 12,
	} {
		told, e := means.M(kinds(), parsed(t, text+" WITHIN 0 BY k"), as)
		if len(told) != want || e != api.OK {
			t.Errorf("%q means %d tuples, %d; want %d", text, len(told), e, want)
		}
	}
	// Each kind of as many as there may be.
	var most []schema.Kind
	var l []wire.Event
	for at := range 16 {
		most = append(most, schema.Kind{Name: string(rune('A' + at)), Fields: strings.Split("a,b,c,d,e,f,g,h", ",")})
		l = append(l, wire.Event{Kind: at, V: []int64{0, 1, 2, 3, 4, 5, 6, int64(at % 2)}})
	}
	for at, k := range most {
		told, e := means.M(most, parsed(t, "A a ; "+k.Name+" b[b.g == 6] WITHIN 5 BY h"), l)
		want := ""
		if at > 0 && at%2 == 0 {
			want = fmt.Sprintf("0 %d", at)
		}
		if put(told) != want || e != api.OK {
			t.Errorf("by %q: %q, %d; want %q", k.Name, put(told), e, want)
		}
	}
	// Many events, of which few are near.
	var long []wire.Event
	for at := range 2000 {
		long = append(long, wire.Event{Kind: at % 2, Time: int64(at), V: []int64{1, 1}})
	}
	told, e := means.M(kinds(), parsed(t, "A a ; !A b ; B c WITHIN 5"), long)
	if len(told) != 1000 || e != api.OK || put(told[998:]) != "1996 1997; 1998 1999" {
		t.Errorf("of many: %d tuples, %d", len(told), e)
	}
}

// model: of each straight path (chapter 12) each rising list of indexes, asked by the chapter's words. Of queries that
// may be, and up to some 10 events.
type model struct {
	s []schema.Kind
	q pattern.Query
	l []wire.Event
}

func (m model) all(t *testing.T) (told [][]int) {
	t.Helper()
	paths, e := path.Of(m.s, m.q)
	if e != api.OK {
		t.Fatalf("Of(%q): %d", pattern.Put(m.q), e)
	}
	had := map[string]bool{}
	for set := range 1 << len(m.l) {
		var tuple []int
		for at := range m.l {
			if set>>at&1 == 1 {
				tuple = append(tuple, at)
			}
		}
		for _, steps := range paths {
			if m.is(steps, tuple) && !had[put([][]int{tuple})] {
				had[put([][]int{tuple})] = true
				told = append(told, tuple)
			}
		}
	}
	slices.SortFunc(told, order)
	return told
}

// is a tuple one of a path?
func (m model) is(steps []path.Step, tuple []int) bool {
	if len(steps) != len(tuple) {
		return false
	}
	var bound []value.Bind
	for n, step := range steps {
		e := m.l[tuple[n]]
		first := m.l[tuple[0]]
		if !m.asks(step.Kind, step.Var, step.Pred, e, first, bound) || n > 0 && !isNear(first.Time, e.Time, m.q.Within) {
			return false
		}
		for _, g := range step.Guards {
			for at := tuple[n-1] + 1; at < tuple[n]; at++ {
				if m.asks(g.Kind, g.Var, g.Pred, m.l[at], first, bound) {
					return false
				}
			}
		}
		bound = append(bound, value.Bind{Var: step.Var, Fields: m.s[e.Kind].Fields, V: e.V})
	}
	return true
}

func (m model) asks(kind int, v string, preds []expr.Expr, e, first wire.Event, bound []value.Bind) bool {
	if e.Kind != kind || len(e.V) != len(m.s[kind].Fields) || m.q.By != "" && m.by(e) != m.by(first) {
		return false
	}
	with := append(slices.Clone(bound), value.Bind{Var: v, Fields: m.s[kind].Fields, V: e.V})
	return len(preds) == 0 || value.Holds(preds[0], with)
}

func (m model) by(e wire.Event) int64 {
	return e.V[slices.Index(m.s[e.Kind].Fields, m.q.By)]
}

// order by place, and then by length.
func order(a, b []int) int {
	for at := 0; ; at++ {
		switch {
		case at == len(a) && at == len(b):
			return 0
		case at == len(a):
			return -1
		case at == len(b):
			return 1
		case a[at] < b[at]:
			return -1
		case a[at] > b[at]:
			return 1
		}
	}
}

// query: a text of items, with a window, and perhaps a partition.
func (s *seq) query() string {
	return s.items(3, 2) + fmt.Sprintf(" WITHIN %d", s.below(12)) + []string{"", " BY k"}[s.below(2)]
}

// items: a text of up to so many, that neither begins nor ends with a Not, with Alts as deep.
func (s *seq) items(most, deep int) string {
	told := s.item(deep)
	for range s.below(most) {
		for range s.below(4) / 2 {
			told += " ; !" + s.event()
		}
		told += " ; " + s.item(deep)
	}
	return told
}

func (s *seq) item(deep int) string {
	if deep > 0 && s.below(4) == 0 {
		told := "(" + s.items(2, deep-1)
		for range 1 + s.below(2) {
			told += " | " + s.items(2, deep-1)
		}
		return told + ")"
	}
	name, pred, _ := strings.Cut(s.event(), "[")
	if low := 1 + s.below(3); s.below(3) == 0 {
		name += fmt.Sprintf("{%d,%d}", low, low+s.below(5-low))
	}
	if pred != "" {
		name += "[" + pred
	}
	return name
}

func (s *seq) event() string {
	name := string(rune('a' + s.below(3)))
	told := string(rune('A'+s.below(3))) + " " + name
	if s.below(4) == 0 {
		// Its own Var, or perhaps one that is bound ahead.
		other := "abcab"[name[0]-'a':][s.below(2)*s.below(3):][:1]
		told += fmt.Sprintf("[%s.k %s %s.k + %d]", name, []string{"<", "==", ">=", "!="}[s.below(4)], other, s.below(2))
	}
	return told
}

// stream: up to so many events, some of which fit nothing; mostly times rise.
func (s *seq) stream(most int) (told []wire.Event) {
	now := int64(s.below(5))
	for range most - s.below(most)*s.below(2) {
		now += int64(s.below(3))
		e := wire.Event{Kind: s.below(3), Time: now}
		if s.below(9) == 0 {
			e.Time -= int64(s.below(9))
		}
		for range kinds()[e.Kind].Fields {
			e.V = append(e.V, int64(s.below(2)))
		}
		switch s.below(24) {
		case 0:
			e.Kind = s.below(9) - 3
		case 1:
			e.V = e.V[1:]
		case 2:
			e.V = append(e.V, 0)
		}
		told = append(told, e)
	}
	return told
}

// P13.2: many queries, of many streams, against the model.
func TestMAgainstModel(t *testing.T) {
	s := seq(31)
	var told, long, nothing, refused int
	for range 20000 {
		q, _, e := parse.Parse(s.query())
		if e != api.OK || check.Check(kinds(), q) != api.OK {
			refused++
			continue
		}
		l := s.stream(8)
		got, e := means.M(kinds(), q, l)
		want := model{kinds(), q, l}.all(t)
		if put(got) != put(want) || e != api.OK {
			t.Fatalf("%q means of %v %q, %d; want %q", pattern.Put(q), l, put(got), e, put(want))
		}
		told += len(got)
		if len(got) == 0 {
			nothing++
		}
		for _, one := range got {
			long = max(long, len(one))
		}
	}
	if told < 10000 || long < 6 || nothing > 9000 || refused > 8000 {
		t.Errorf("told %d tuples, the longest of %d, of %d queries none; %d were refused", told, long, nothing, refused)
	}
}

// P13.2: all streams of up to so many events, of queries with all that there is in them.
func TestMOfAllShort(t *testing.T) {
	leaves := events(t, "A0:0,0 A1:1,1 B1:0,0 B2:1,1 C1:0,0,0 C0:1,0,1 C0:1,1")
	var n int
	for _, text := range []string{
		"A a{1,2} ; !C c[c.x == a.x] ; B b WITHIN 1", "A a ; !A a[a.x > 0] ; !C c ; (B b | C b{1,2}[b.y == 0]) WITHIN 1 BY k", "(A a ; !C a ; A b | B b) ; (C c | A a[a.x >= b.k]) WITHIN 0",
	} {
		q := parsed(t, text)
		streams := [][]wire.Event{nil}
		for range 5 {
			var longer [][]wire.Event
			for _, l := range streams {
				want := model{kinds(), q, l}.all(t)
				if got, e := means.M(kinds(), q, l); put(got) != put(want) || e != api.OK {
					t.Fatalf("%q means of %v %q, %d; want %q", text, l, put(got), e, put(want))
				}
				n += len(want)
				for _, e := range leaves {
					longer = append(longer, append(slices.Clip(l), e))
				}
			}
			streams = longer
		}
	}
	if n < 3000 {
		t.Errorf("told: %d", n)
	}
}

// among puts others among events, and tells which index each of these has then.
func (s *seq) among(l, others []wire.Event) (told []wire.Event, places []int) {
	for at := 0; at <= len(l); at++ {
		for range s.below(3) {
			told = append(told, others[s.below(len(others))])
		}
		if at < len(l) {
			places = append(places, len(told))
			told = append(told, l[at])
		}
	}
	return told, places
}

// P13.4: what does not fit, or is of another partition, turns nothing.
func TestOthersTurnNothing(t *testing.T) {
	s := seq(32)
	var told int
	for range 12000 {
		q, _, e := parse.Parse(s.query())
		if e != api.OK || check.Check(kinds(), q) != api.OK {
			continue
		}
		l := s.stream(8)
		others, none := wrongEvents(), "of what does not fit"
		if q.By != "" && s.below(2) == 0 {
			// Numbers of those that are in the stream are 0 and 1.
			others, none = []wire.Event{{Kind: 0, V: []int64{2, 1}}, {Kind: 1, Time: 5, V: []int64{0, -1}}, {Kind: 2, Time: 9, V: []int64{0, 1, math.MinInt64}}}, "of other partitions"
		}
		more, places := s.among(l, others)
		want, _ := means.M(kinds(), q, l)
		for _, one := range want {
			for at := range one {
				one[at] = places[one[at]]
			}
		}
		got, _ := means.M(kinds(), q, more)
		// Of another partition there may be tuples too, but none of both.
		got = slices.DeleteFunc(got, func(one []int) bool {
			in := slices.Contains(places, one[0])
			for _, at := range one {
				if slices.Contains(places, at) != in {
					t.Errorf("%q means of %v %v, part %s", pattern.Put(q), more, one, none)
				}
			}
			return !in && none == "of other partitions"
		})
		if put(got) != put(want) {
			t.Fatalf("%q means of %v %q, without those %s %q", pattern.Put(q), more, put(got), none, put(want))
		}
		told += len(got)
	}
	if told < 5000 {
		t.Errorf("told %d tuples", told)
	}
}

// P13.4, P13.2: each tuple rises, fits, and is within its window and of one partition, at times all over 64 bits.
func TestWithinTheWindow(t *testing.T) {
	s := seq(33)
	times := ends()
	var told int
	for range 6000 {
		q, _, e := parse.Parse(s.query())
		if e != api.OK || check.Check(kinds(), q) != api.OK {
			continue
		}
		l := s.stream(9)
		from := s.below(len(times))
		for at := range l {
			l[at].Time = times[(from+s.below(3))%len(times)]
		}
		got, _ := means.M(kinds(), q, l)
		for _, one := range got {
			for n, at := range one {
				e, first := l[at], l[one[0]]
				if n > 0 && at <= one[n-1] || wire.Fits(kinds(), e) != api.OK || !isNear(first.Time, e.Time, q.Within) {
					t.Fatalf("%q means of %v %v", pattern.Put(q), l, one)
				}
				if m := (model{kinds(), q, l}); q.By != "" && m.by(e) != m.by(first) {
					t.Fatalf("%q means of %v %v, of two partitions", pattern.Put(q), l, one)
				}
			}
		}
		told += len(got)
	}
	if told < 3000 {
		t.Errorf("told %d tuples", told)
	}
}

// lists: all of up to so many of these numbers.
func lists(most int, of ...int) [][]int {
	told := [][]int{nil}
	for from := 0; most > 0; most-- {
		to := len(told)
		for ; from < to; from++ {
			for _, n := range of {
				told = append(told, append(slices.Clip(told[from]), n))
			}
		}
	}
	return told
}

// P13.3: written out, and all twos of short lists.
func TestOrder(t *testing.T) {
	for _, c := range []struct {
		a, b []int
		want int
	}{
		{nil, nil, 0}, {nil, []int{}, 0}, {[]int{}, nil, 0}, {nil, []int{0}, -1}, {nil, []int{math.MinInt}, -1}, {[]int{math.MinInt}, nil, 1},
		{[]int{1}, []int{1}, 0}, {[]int{1}, []int{2}, -1}, {[]int{2}, []int{1, 9}, 1}, {[]int{1}, []int{1, -9}, -1}, {[]int{1, 2}, []int{1, 2}, 0}, {[]int{1, 3}, []int{1, 2, 9}, 1}, {[]int{10}, []int{9}, 1}, {[]int{-1}, []int{1}, -1},
		{[]int{math.MinInt}, []int{math.MaxInt}, -1}, {[]int{math.MaxInt}, []int{math.MinInt}, 1}, {[]int{math.MaxInt}, []int{-1}, 1}, {[]int{math.MinInt}, []int{1}, -1}, {[]int{1 << 32}, []int{1}, 1}, {[]int{1 << 32}, []int{0}, 1}, {[]int{1<<32 + 1}, []int{2}, 1},
	} {
		if got := sign(means.Order(c.a, c.b)); got != c.want || sign(means.Order(c.b, c.a)) != -c.want {
			t.Errorf("Order(%v, %v) = %d, the other way round %d; want %d", c.a, c.b, got, means.Order(c.b, c.a), c.want)
		}
	}
	all := lists(3, math.MinInt, -1, 0, 1, 2, math.MaxInt)
	for _, a := range all {
		for _, b := range all {
			if got := sign(means.Order(a, b)); got != order(a, b) {
				t.Errorf("Order(%v, %v) = %d; want %d", a, b, got, order(a, b))
			}
		}
	}
}

func sign(n int) int {
	switch {
	case n < 0:
		return -1
	case n > 0:
		return 1
	}
	return 0
}

// P13.3: each once, in order.
func TestSort(t *testing.T) {
	for _, c := range []struct {
		l    [][]int
		want string
	}{
		{nil, "[]"}, {[][]int{}, "[]"}, {[][]int{nil}, "[[]]"}, {[][]int{nil, {}, nil}, "[[]]"}, {[][]int{{1}}, "[[1]]"}, {[][]int{{2}, {1}}, "[[1] [2]]"}, {[][]int{{1}, {1}}, "[[1]]"}, {[][]int{{1}, {2}, {1}, {2}, {1}}, "[[1] [2]]"},
		{[][]int{{2, 1}, {1}, {}, {2}, {1}, {1, -5}}, "[[] [1] [1 -5] [2] [2 1]]"}, {[][]int{{10}, {9}, {9, 10}, {-1}}, "[[-1] [9] [9 10] [10]]"}, {[][]int{{3, 1}, {1, 3}}, "[[1 3] [3 1]]"}, {[][]int{{1, 1}, {1, 1, 1}, {1}}, "[[1] [1 1] [1 1 1]]"},
		{[][]int{{math.MaxInt}, {math.MinInt}, {0}}, fmt.Sprint([][]int{{math.MinInt}, {0}, {math.MaxInt}})},
	} {
		if got := means.Sort(c.l); fmt.Sprint(got) != c.want {
			t.Errorf("Sort(%v) = %v; want %s", c.l, got, c.want)
		}
	}
	// Many, against a set of them that is picked least first.
	s := seq(34)
	all := lists(3, -1, 0, 1, 7)
	for range 3000 {
		var l [][]int
		for range s.below(40) {
			l = append(l, all[s.below(len(all))])
		}
		rest, want := slices.Clone(l), [][]int(nil)
		for len(rest) > 0 {
			least := slices.MinFunc(rest, order)
			want = append(want, least)
			rest = slices.DeleteFunc(rest, func(one []int) bool { return order(one, least) == 0 })
		}
		if got := means.Sort(l); put(got) != put(want) || len(got) != len(want) || put(means.Sort(got)) != put(want) {
			t.Fatalf("Sort(%v) = %v; want %v", l, got, want)
		}
	}
	great := make([][]int, 200000)
	for at := range great {
		great[at] = []int{(at * 7919) % 50000, 1}
	}
	if got := means.Sort(great); len(got) != 50000 || !slices.IsSortedFunc(got, order) {
		t.Errorf("Sort of many tells %d", len(got))
	}
}

// seen has the place of each thing that stands in a list, or in its room.
type seen map[any]bool

func see[T any](had seen, l []T) (twice bool) {
	for at := range l[:cap(l)] {
		place := &l[:cap(l)][at]
		twice = twice || had[place]
		had[place] = true
	}
	return twice
}

func (had seen) lists(l [][]int) bool {
	twice := see(had, l)
	for _, one := range l {
		twice = see(had, one) || twice
	}
	return twice
}

// P3: no list of an answer stands where what was handed in does, or another one of it, nor does its room.
func TestAnswersAreNew(t *testing.T) {
	s := seq(35)
	for range 2000 {
		q, _, e := parse.Parse(s.query())
		if e != api.OK {
			continue
		}
		l := s.stream(8)
		had := seen{}
		for _, e := range l {
			see(had, e.V)
		}
		for range 2 {
			told, _ := means.M(kinds(), q, l)
			if had.lists(told) || had.lists(means.Sort(told)) {
				t.Fatalf("%q means of %v what shares something", pattern.Put(q), l)
			}
		}
	}
	twice := []int{1, 2}
	l := [][]int{{3}, twice, twice, nil, make([]int, 0, 4)}
	had := seen{}
	had.lists(l)
	if had.lists(means.Sort(l)) {
		t.Error("Sort shares something")
	}
}

// shown: all that stands in items, and in the room of each list.
func shown(l []pattern.Item) string {
	told := fmt.Sprintf("%+v", l[:cap(l)])
	for _, i := range l {
		told += fmt.Sprintf("%+v%+v", i.Pred[:cap(i.Pred)], i.Kids[:cap(i.Kids)])
		for _, kid := range i.Kids {
			told += shown(kid)
		}
	}
	return told
}

// roomy: the same, with room behind each list in which something stands.
func roomy(l []pattern.Item) []pattern.Item {
	spare := pattern.Item{Kind: pattern.Not, Name: "Spare", Var: "room", Low: 7}
	var told []pattern.Item
	for _, i := range l {
		i.Pred = append(slices.Clip(i.Pred), expr.Expr{Op: "spare"})[:len(i.Pred)]
		var kids [][]pattern.Item
		for _, kid := range i.Kids {
			kids = append(kids, roomy(kid))
		}
		i.Kids = append(kids, []pattern.Item{spare}, nil)[:len(kids)]
		told = append(told, i)
	}
	return append(told, spare, spare)[:len(l)]
}

func roomyEvents(l []wire.Event) (told []wire.Event) {
	for _, e := range l {
		e.V = append(slices.Clip(e.V), 77, 78)[:len(e.V)]
		told = append(told, e)
	}
	return append(told, wire.Event{Time: 79}, wire.Event{V: []int64{7}})[:len(l)]
}

func shownEvents(l []wire.Event) string {
	told := fmt.Sprint(l[:cap(l)])
	for _, e := range l {
		told += fmt.Sprint(e.V[:cap(e.V)])
	}
	return told
}

// P3, P4: nothing that is handed in is written into, and the same is told again, of what was handed in with room behind too.
func TestNothingIsWritten(t *testing.T) {
	s := seq(36)
	for range 2000 {
		q, _, e := parse.Parse(s.query())
		if e != api.OK {
			continue
		}
		l := s.stream(8)
		known, spaced, roomyL := kinds(), pattern.Query{Items: roomy(q.Items), Within: q.Within, By: q.By}, roomyEvents(l)
		was, wasL := shown(spaced.Items), shownEvents(roomyL)
		told, e := means.M(known, spaced, roomyL)
		if shown(spaced.Items) != was || shownEvents(roomyL) != wasL || !schema.Same(known, kinds()) {
			t.Fatalf("M(%q, %v) wrote into what was handed in", pattern.Put(q), l)
		}
		if other, otherE := means.M(kinds(), q, l); put(other) != put(told) || e != otherE {
			t.Fatalf("M(%q, %v) = %q, %d; then %q, %d", pattern.Put(q), l, put(told), e, put(other), otherE)
		}
	}
	l := [][]int{{3, 4}, {1}, {1}, nil, {2, 9}, {0}}
	room := append(l, []int{7})
	if means.Sort(l[:5]); fmt.Sprint(room) != "[[3 4] [1] [1] [] [2 9] [0] [7]]" || fmt.Sprint(l) != "[[3 4] [1] [1] [] [2 9] [0]]" {
		t.Errorf("Sort made this of what was handed in: %v", room)
	}
}
