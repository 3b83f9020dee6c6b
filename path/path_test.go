package path_test

import (
	"fmt"
	"math"
	"slices"
	"strings"
	"testing"

	"jettison/api"
	"jettison/check"
	"jettison/expr"
	"jettison/parse"
	"jettison/path"
	"jettison/pattern"
	"jettison/schema"
)

// kinds: what the queries of the tests are held against. All have k, two each have x, y; there is no D.
func kinds() []schema.Kind {
	return []schema.Kind{{Name: "A", Fields: []string{"k", "x"}}, {Name: "B", Fields: []string{"k", "y"}}, {Name: "C", Fields: []string{"k", "x", "y"}}}
}

func parsed(t *testing.T, text string) pattern.Query {
	t.Helper()
	q, at, e := parse.Parse(text)
	if e != api.OK {
		t.Fatalf("Parse(%q): %d at %d", text, e, at)
	}
	return q
}

func parsedExpr(t *testing.T, text string) expr.Expr {
	t.Helper()
	x, at, e := parse.Expr(text)
	if e != api.OK {
		t.Fatalf("Expr(%q): %d at %d", text, e, at)
	}
	return x
}

// pathsOf a text, which must have some.
func pathsOf(t *testing.T, text string) [][]path.Step {
	t.Helper()
	l, e := path.Of(kinds(), parsed(t, text+" WITHIN 5"))
	if e != api.OK {
		t.Fatalf("Of(%q): %d", text, e)
	}
	return l
}

// put: paths as the texts of straight queries, each a line.
func put(s []schema.Kind, l [][]path.Step) string {
	var lines []string
	for _, steps := range l {
		var words []string
		for _, one := range steps {
			for _, g := range one.Guards {
				words = append(words, "!"+putOne(s, g.Kind, g.Var, g.Pred))
			}
			words = append(words, putOne(s, one.Kind, one.Var, one.Pred))
		}
		lines = append(lines, strings.Join(words, " ; "))
	}
	return strings.Join(lines, "\n")
}

func putOne(s []schema.Kind, kind int, v string, preds []expr.Expr) string {
	told := s[kind].Name + " " + v
	for _, pred := range preds {
		told += "[" + expr.Put(pred) + "]"
	}
	return told
}

// nth of the paths of l, from 0 on, as the Items that it goes by: how many there are of what stands behind says which of
// the first one's it has, so no path needs the others.
func nth(l []pattern.Item, n int) (told []pattern.Item) {
	if len(l) == 0 {
		return nil
	}
	first, rest := n/check.Paths(l[1:]), n%check.Paths(l[1:])
	switch l[0].Kind {
	case 1:
		for range l[0].Low + first {
			told = append(told, l[0])
		}
	case 3:
		for _, kid := range l[0].Kids {
			if count := check.Paths(kid); first >= count {
				first -= count
				continue
			}
			told = nth(kid, first)
			break
		}
	default:
		told = l[:1:1]
	}
	return append(told, nth(l[1:], rest)...)
}

// expectedOf a query that may be.
func expectedOf(s []schema.Kind, q pattern.Query) (told [][]path.Step) {
	number := func(i pattern.Item) int {
		return slices.IndexFunc(s, func(k schema.Kind) bool { return k.Name == i.Name })
	}
	for n := range check.Paths(q.Items) {
		var steps []path.Step
		l := nth(q.Items, n)
		for at, i := range l {
			if i.Kind == 2 {
				continue
			}
			one := path.Step{Kind: number(i), Var: i.Var, Pred: i.Pred}
			// Its guards are the Nots that stand next ahead of it.
			from := at
			for from > 0 && l[from-1].Kind == 2 {
				from--
			}
			for _, g := range l[from:at] {
				one.Guards = append(one.Guards, path.Guard{Kind: number(g), Var: g.Var, Pred: g.Pred})
			}
			steps = append(steps, one)
		}
		told = append(told, steps)
	}
	return told
}

// checkOf asks of the query by the chapter's words, and whether what is told has as much as chapter 11 counts.
func checkOf(t *testing.T, s []schema.Kind, q pattern.Query) api.Errno {
	t.Helper()
	l, e := path.Of(s, q)
	if want := check.Check(s, q); e != want {
		t.Errorf("Of(%q, %+v) is told as %d; want %d", schema.Put(s), q, e, want)
	}
	if e != api.OK {
		if l != nil {
			t.Errorf("Of(%q, %+v) = %+v beside %d", schema.Put(s), q, l, e)
		}
		return e
	}
	want := expectedOf(s, q)
	// Put like this lists of nothing are alike, nil or empty.
	if fmt.Sprintf("%+v", l) != fmt.Sprintf("%+v", want) || !path.Same(l, want) || !path.Same(want, l) {
		t.Errorf("Of(%q, %q) =\n%s\nwant\n%s", schema.Put(s), pattern.Put(q), put(s, l), put(s, want))
	}
	checkCounts(t, q.Items, l)
	return e
}

// P12.3: by what the calls tell, and by each path.
func checkCounts(t *testing.T, l []pattern.Item, paths [][]path.Step) {
	t.Helper()
	longest := 0
	for _, steps := range paths {
		longest = max(longest, len(steps))
	}
	if len(paths) != check.Paths(l) || longest != check.Steps(l) || path.Longest(paths) != longest {
		t.Errorf("%q has %d paths, the longest %d, Longest %d; Paths %d, Steps %d", pattern.PutItems(l), len(paths), longest, path.Longest(paths), check.Paths(l), check.Steps(l))
	}
}

// P12.1: what each kind of item has, and in which order, written out.
func TestOf(t *testing.T) {
	for _, c := range []struct {
		text string
		want []string
	}{
		{"A a", []string{"A a"}},
		{"C é[é.x < 1]", []string{"C é[é.x < 1]"}},
		{"A a ; B b ; A a", []string{"A a ; B b ; A a"}},
		// From Low to High, the least and the most of each.
		{"A a{1,1}", []string{"A a"}},
		{"A a{1,2}", []string{"A a", "A a ; A a"}},
		{"A a{2,3}[a.x < 1]", []string{"A a[a.x < 1] ; A a[a.x < 1]", "A a[a.x < 1] ; A a[a.x < 1] ; A a[a.x < 1]"}},
		{"A a{1,4}", []string{"A a", "A a ; A a", "A a ; A a ; A a", "A a ; A a ; A a ; A a"}},
		{"A a{4,4}", []string{"A a ; A a ; A a ; A a"}},
		// The first one's with all those of the rest, ahead of its next.
		{"A a{1,2} ; B b{1,2}", []string{"A a ; B b", "A a ; B b ; B b", "A a ; A a ; B b", "A a ; A a ; B b ; B b"}},
		{"A a{1,2} ; B b ; C c{2,3}", []string{"A a ; B b ; C c ; C c", "A a ; B b ; C c ; C c ; C c", "A a ; A a ; B b ; C c ; C c", "A a ; A a ; B b ; C c ; C c ; C c"}},
		// Of an Alt in order, paths that are alike too.
		{"(B b | A a)", []string{"B b", "A a"}},
		{"(A a | A a) ; B b", []string{"A a ; B b", "A a ; B b"}},
		{"(C c | A a{1,2} | B b ; A a) ; (B d | A e)", []string{"C c ; B d", "C c ; A e", "A a ; B d", "A a ; A e", "A a ; A a ; B d", "A a ; A a ; A e", "B b ; A a ; B d", "B b ; A a ; A e"}},
		{"(A a | (B b | C c) ; A d | A e)", []string{"A a", "B b ; A d", "C c ; A d", "A e"}},
		{"((A a | B b{1,2}) ; (A c | C d) | C e)", []string{"A a ; A c", "A a ; C d", "B b ; A c", "B b ; C d", "B b ; B b ; A c", "B b ; B b ; C d", "C e"}},
		// A guard is of the next Step alone, behind those that this has already.
		{"A a ; !B b ; C c", []string{"A a ; !B b ; C c"}},
		{"A a ; !B b[b.y < a.x] ; !C c ; !B b ; C c[c.y == 2] ; B d", []string{"A a ; !B b[b.y < a.x] ; !C c ; !B b ; C c[c.y == 2] ; B d"}},
		{"A a ; !B b ; C c ; !A d ; B e", []string{"A a ; !B b ; C c ; !A d ; B e"}},
		{"A a ; !B b ; A c{1,3}", []string{"A a ; !B b ; A c", "A a ; !B b ; A c ; A c", "A a ; !B b ; A c ; A c ; A c"}},
		{"A a{1,2} ; !B b ; A c{2,2}", []string{"A a ; !B b ; A c ; A c", "A a ; A a ; !B b ; A c ; A c"}},
		// Ahead of an Alt it is of the first Step of each of its Kids, however deep; behind one of the next, whichever Kid was gone.
		{"A a ; !C c ; (A d | B e ; A f)", []string{"A a ; !C c ; A d", "A a ; !C c ; B e ; A f"}},
		{"A a ; !C c ; !B b ; ((A d{1,2} | B e) ; !B f ; A g | C h) ; A i", []string{"A a ; !C c ; !B b ; A d ; !B f ; A g ; A i", "A a ; !C c ; !B b ; A d ; A d ; !B f ; A g ; A i", "A a ; !C c ; !B b ; B e ; !B f ; A g ; A i", "A a ; !C c ; !B b ; C h ; A i"}},
		{"(A a | B b ; !A c ; C d) ; !B e ; (A f | C g)", []string{"A a ; !B e ; A f", "A a ; !B e ; C g", "B b ; !A c ; C d ; !B e ; A f", "B b ; !A c ; C d ; !B e ; C g"}},
	} {
		for _, by := range []string{"", " BY k"} {
			q := parsed(t, c.text+" WITHIN 5"+by)
			l, e := path.Of(kinds(), q)
			if got := put(kinds(), l); got != strings.Join(c.want, "\n") || e != api.OK {
				t.Errorf("Of(%q) is told as %d:\n%s\nwant\n%s", c.text+by, e, got, strings.Join(c.want, "\n"))
			}
			checkOf(t, kinds(), q)
		}
	}
}

// P12.1: each field of a Step and of a Guard.
func TestOfFields(t *testing.T) {
	less, more := parsedExpr(t, "c.x < b.y"), parsedExpr(t, "a.x > b.y + 1")
	got := pathsOf(t, "B b ; !A a[a.x > b.y + 1] ; !C d ; C c{1,2}[c.x < b.y]")
	guards := []path.Guard{{Kind: 0, Var: "a", Pred: []expr.Expr{more}}, {Kind: 2, Var: "d"}}
	first := []path.Step{{Kind: 1, Var: "b"}, {Kind: 2, Var: "c", Pred: []expr.Expr{less}, Guards: guards}}
	want := [][]path.Step{first, append(slices.Clone(first), path.Step{Kind: 2, Var: "c", Pred: []expr.Expr{less}})}
	if fmt.Sprintf("%+v", got) != fmt.Sprintf("%+v", want) {
		t.Errorf("got\n%+v\nwant\n%+v", got, want)
	}
}

// mostKinds: as many as there may be, each with as many fields.
func mostKinds() (told []schema.Kind) {
	for at := range 16 {
		told = append(told, schema.Kind{Name: string(rune('A' + at)), Fields: strings.Split("a,b,c,d,e,f,g,h", ",")})
	}
	return told
}

// P12.1: the number of a kind is its place among those of the schema, whatever else there is.
func TestOfKinds(t *testing.T) {
	for _, s := range [][]schema.Kind{mostKinds()[:1], mostKinds()[:2], mostKinds()[:15], mostKinds(), {{Name: "é"}, {Name: "b"}, {Name: "B"}, {Name: "_"}, {Name: strings.Repeat("A", 24)}}} {
		for _, turned := range []bool{false, true} {
			if turned {
				slices.Reverse(s)
			}
			for at, k := range s {
				l, e := path.Of(s, parsed(t, k.Name+" a ; !"+k.Name+" b ; "+k.Name+" c{1,2} WITHIN 5"))
				want := fmt.Sprintf("[[{%d a [] []} {%d c [] [{%d b []}]}] [{%d a [] []} {%d c [] [{%d b []}]} {%d c [] []}]]", at, at, at, at, at, at, at)
				if fmt.Sprint(l) != want || e != api.OK {
					t.Errorf("Of(%q, by %q) = %v, %d; want %s", schema.Put(s), k.Name, l, e, want)
				}
			}
		}
	}
}

// sized: a Truth of so many Exprs, from 3 on, as a text.
func sized(n int) string {
	return strings.Repeat("-", 1-n%2) + "1" + strings.Repeat(" + 1", (n-3)/2) + " < 1"
}

// P12.1, P12.3: each limit of a query at the most, and next to it.
func TestOfLimits(t *testing.T) {
	for text, want := range map[string]api.Errno{
		// Paths: up to 32.
		"A a{1,4} ; A b{1,4} ; A c{1,2}":                                          api.OK,
		"A a{1,4} ; A b{1,4} ; A c{1,3}":                                          api.ErrLimit,
		"(A a{1,4} ; A b{1,4} | A a{1,4} ; A b{1,4})":                             api.OK,
		"(A a{1,4} ; A b{1,4} | A a{1,4} ; A b{1,3} | A a{2,4})":                  api.OK,
		"(A a{1,4} ; A b{1,4} | A a{1,4} ; A b{1,4} | A a)":                       api.ErrLimit,
		"(A a | B b) ; (A a | B b) ; (A a | B b) ; (A a | B b)":                   api.OK,
		"(A a | B b) ; (A a | B b) ; (A a | B b) ; A a{1,4}":                      api.OK,
		"(A a{1,4} | A b{1,4}) ; A d{1,4}":                                        api.OK,
		"(A a{1,4} | A b{1,4} | A c) ; A d{1,4}":                                  api.ErrLimit,
		"A a{1,2} ; A b{1,2} ; A c{1,2} ; A d{1,2} ; A e{1,2}":                    api.OK,
		"A a{1,2} ; A b{1,2} ; A c{1,2} ; A d{1,2} ; A e{1,2} ; A f{1,2}":         api.ErrLimit,
		"(A a | A b | A c | A d | A e | A f | A g | A h | A i | A j)":             api.OK,
		"(A a | A b | A c | A d | A e | A f | A g | A h | A i | A j | B k)":       api.OK,
		"(A a | A b | A c | A d | A e | A f | A g | A h | A i | A j | B k | C l)": api.ErrLimit,
		// Steps: up to 12.
		"A a{4,4} ; A b{4,4} ; A c{4,4}":                                        api.OK,
		"A a{4,4} ; A b{4,4} ; A c{4,4} ; A d":                                  api.ErrLimit,
		"A a{4,4} ; A b{4,4} ; (A c{2,2} ; A d | A c{4,4})":                     api.OK,
		"A a{4,4} ; A b{4,4} ; (A c{2,2} ; A d | A c{4,4} ; A d)":               api.ErrLimit,
		"A a ; A a ; A a ; A a ; A a ; A a ; A a ; A a ; A a ; A a ; A a ; A a": api.OK,
		// Items: up to 12, and so up to 10 guards of one Step.
		"A a ; !B b ; !B c ; !B d ; !B e ; !B f ; !B g ; !B h ; !B i ; !B j ; !B k ; C c":                          api.OK,
		"A a ; !B b ; !B c ; !B d ; !B e ; !B f ; !B g ; !B h ; (A d | C c{1,2}) ; B b":                            api.OK,
		"A a{4,4} ; !B b ; A c{4,4} ; !B c ; !B d ; !B e ; !B f ; !B g ; !B h ; !B i ; !B j ; A d{4,4}":            api.OK,
		"A a{4,4} ; !B b ; A c{4,4} ; !B c ; !B d ; !B e ; !B f ; !B g ; !B h ; !B i ; !B j ; A d{4,4} ; C c{1,2}": api.ErrLimit,
		// Code: up to 256.
		"A a[" + sized(255) + "]": api.OK, "A a[" + sized(256) + "]": api.OK, "A a[" + sized(257) + "]": api.ErrLimit,
		"A a{1,4}[" + sized(100) + "] ; !B b[" + sized(56) + "] ; A c{1,4}[" + sized(100) + "] ; A d{1,2}": api.OK,
		"A a{1,4}[" + sized(100) + "] ; !B b[" + sized(57) + "] ; A c{1,4}[" + sized(100) + "] ; A d{1,2}": api.ErrLimit,
	} {
		q, _, e := parse.Parse(text + " WITHIN 5 BY k")
		if e == api.OK {
			e = checkOf(t, kinds(), q)
		}
		if e != want {
			t.Errorf("%q is told as %d; want %d", text, e, want)
		}
	}
	// More items than a text may have.
	a := pattern.Item{Kind: pattern.One, Name: "A", Var: "a"}
	for n, want := range map[int]api.Errno{0: api.ErrArg, 1: api.OK, 11: api.OK, 12: api.OK, 13: api.ErrLimit, 300000: api.ErrLimit} {
		if l, e := path.Of(kinds(), pattern.Query{Items: slices.Repeat([]pattern.Item{a}, n)}); e != want || want != api.OK && l != nil {
			t.Errorf("Of %d items: %+v, %d; want %d", n, l, e, want)
		}
	}
}

// wrongSchemas: each with the error that it has.
func wrongSchemas() map[api.Errno][][]schema.Kind {
	return map[api.Errno][][]schema.Kind{
		api.ErrLimit: {nil, {}, append(mostKinds(), schema.Kind{Name: "Q"}), {{Name: "A", Fields: make([]string, 9)}}, append(kinds(), schema.Kind{Name: "D", Fields: strings.Split("a,b,c,d,e,f,g,h,i", ",")})},
		api.ErrName:  {{{}}, append(kinds(), schema.Kind{Name: "A"}), append(kinds(), schema.Kind{Name: "BY"}), append(kinds(), schema.Kind{Name: "D", Fields: []string{"x", "x"}}), {{Name: "A", Fields: []string{"9"}}}},
	}
}

// P12.1, P2: the error of Check, and no paths, by each of its errors.
func TestOfErrors(t *testing.T) {
	long := strings.Repeat("k", 25)
	for text, want := range map[string]api.Errno{
		// A Not at an end of Items, or of a Kid.
		"!A a": api.ErrArg, "A a ; !B b": api.ErrArg, "!B b ; A a": api.ErrArg, "(A a | !B b ; A c)": api.ErrArg, "A a ; (B b ; !C c | A a) ; A d": api.ErrArg, "A a ; ((A b | !B b) | A c)": api.ErrArg,
		// Names of kinds, of Vars, of fields.
		"D d": api.ErrName, "A a ; !D d ; B b": api.ErrName, "A a ; (B b | D d{1,2})": api.ErrName, "a A": api.ErrName, "A a[a.y < 1]": api.ErrName, "A a[b.y < 1] ; B b": api.ErrName, "A a ; !B b ; C c[b.y < 1]": api.ErrName, "A a ; B a ; C c[a.x < 1]": api.ErrName,
		// Preds that tell no truth.
		"A a[1]": api.ErrType, "A a ; !B b[b.y] ; C c": api.ErrType, "(A a | B b{1,3}[-b.y])": api.ErrType, "A a[1 < 2 < 3]": api.ErrType,
		// Several at once: what is wrong with all of it ahead of what is wrong with an item, of items the first one.
		"!D d[1]": api.ErrArg, "D d ; !A a": api.ErrArg, "A a{1,4}[1] ; A b{1,4} ; A c{1,4}": api.ErrLimit, "D d{4,4} ; A a{4,4} ; A b{4,4} ; A c": api.ErrLimit, "A a{1,4} ; A b{1,4} ; A c{1,4} ; !D d": api.ErrArg, "A a[1] ; D d": api.ErrType, "D d ; A a[1]": api.ErrName, "D d[1]": api.ErrName,
		"A a[u.x]": api.ErrType, "(A a | D d) ; A a[1]": api.ErrName, "(A a | A b[1]) ; D d": api.ErrType, "A a ; !B b[b.y] ; D d": api.ErrType, "A a ; !B b[b.x < 1] ; A c[1]": api.ErrName,
	} {
		if got := checkOf(t, kinds(), parsed(t, text+" WITHIN 5")); got != want {
			t.Errorf("Of(%q) is told as %d; want %d", text, got, want)
		}
	}
	a := pattern.Item{Kind: pattern.One, Name: "A", Var: "a"}
	alt := func(kids ...[]pattern.Item) pattern.Item { return pattern.Item{Kind: pattern.Alt, Kids: kids} }
	both := [][]pattern.Item{{a}, {a}}
	// What is not right, alone, among others, and in a Kid.
	for _, i := range []pattern.Item{
		{}, {Name: "A"}, {Var: "a"}, {Name: "A", Var: "9"}, {Name: "BY", Var: "a"}, {Name: "A", Var: long}, {Kind: 4, Name: "A", Var: "a"}, {Kind: -1, Name: "A", Var: "a"}, {Kind: math.MinInt, Name: "A", Var: "a"}, {Kind: math.MaxInt, Name: "A", Var: "a"}, {Kind: 1 << 32, Name: "A", Var: "a"},
		{Name: "A", Var: "a", Low: 1}, {Name: "A", Var: "a", High: 1}, {Name: "A", Var: "a", Kids: both}, {Kind: pattern.Not, Name: "A", Var: "a", Low: 1, High: 1}, {Kind: pattern.Not, Name: "A", Var: "a", Kids: both},
		{Kind: pattern.Times, Name: "A", Var: "a"}, {Kind: pattern.Times, Name: "A", Var: "a", High: 1}, {Kind: pattern.Times, Name: "A", Var: "a", Low: -1, High: 1}, {Kind: pattern.Times, Name: "A", Var: "a", Low: 1, High: 5}, {Kind: pattern.Times, Name: "A", Var: "a", Low: 5, High: 5}, {Kind: pattern.Times, Name: "A", Var: "a", Low: 3, High: 2},
		{Kind: pattern.Times, Name: "A", Var: "a", Low: math.MinInt, High: math.MaxInt}, {Kind: pattern.Times, Name: "A", Var: "a", Low: 1, High: math.MaxInt}, {Kind: pattern.Times, Name: "A", Var: "a", Low: 1, High: 1, Kids: both}, {Name: "A", Var: "a", Pred: make([]expr.Expr, 2)}, {Name: "A", Var: "a", Pred: []expr.Expr{{N: -1}}}, {Name: "A", Var: "a", Pred: []expr.Expr{{Kind: 9}}},
		alt(), alt(nil), alt(both[0]), alt(both[0], nil), alt(nil, both[0]), alt(both[0], []pattern.Item{}), {Kind: pattern.Alt, Name: "A", Kids: both}, {Kind: pattern.Alt, Var: "a", Kids: both}, {Kind: pattern.Alt, Low: 1, High: 1, Kids: both}, {Kind: pattern.Alt, Pred: make([]expr.Expr, 1), Kids: both},
	} {
		for _, l := range [][]pattern.Item{{i}, {i, a}, {a, i}, {a, i, a}, {alt([]pattern.Item{i}, both[0])}, {a, alt(both[0], []pattern.Item{a, i, a})}, {alt([]pattern.Item{alt(both[0], []pattern.Item{i})}, both[0]), a}} {
			if got := checkOf(t, kinds(), pattern.Query{Items: l}); got != api.ErrArg {
				t.Errorf("Of(%+v) is told as %d", l, got)
			}
		}
	}
	for _, q := range []pattern.Query{{}, {Items: []pattern.Item{}}, {Items: both[0], Within: -1}, {Items: both[0], Within: 1000000001}, {Items: both[0], Within: math.MinInt64}, {Items: both[0], Within: math.MaxInt64}, {Items: both[0], By: "9"}, {Items: both[0], By: long}} {
		if got := checkOf(t, kinds(), q); got != api.ErrArg {
			t.Errorf("Of(%+v) is told as %d", q, got)
		}
	}
	for by, want := range map[string]api.Errno{"": api.OK, "k": api.OK, "x": api.OK, "y": api.ErrName, "A": api.ErrName, "a": api.ErrName, long[1:]: api.ErrName} {
		for _, within := range []int64{0, 1, 999999999, 1000000000} {
			if got := checkOf(t, kinds(), pattern.Query{Items: both[0], Within: within, By: by}); got != want {
				t.Errorf("Of one BY %q WITHIN %d is told as %d; want %d", by, within, got, want)
			}
		}
	}
	// A schema that may not be, whatever the query is.
	for want, l := range wrongSchemas() {
		for _, s := range l {
			for _, q := range []pattern.Query{{}, {Items: both[0]}, {Items: []pattern.Item{{Kind: pattern.Not, Name: "D", Var: "d"}}, Within: -1}, {Items: slices.Repeat(both[0], 13)}, {Items: []pattern.Item{{Name: "A", Var: "a", Pred: make([]expr.Expr, 1)}}}} {
				if got := checkOf(t, s, q); got != want {
					t.Errorf("Of(%q, %+v) is told as %d; want %d", schema.Put(s), q, got, want)
				}
			}
		}
	}
}

// allLists: of just so many of these.
func allLists(n int, leaves []pattern.Item) [][]pattern.Item {
	told := [][]pattern.Item{nil}
	for range n {
		var longer [][]pattern.Item
		for _, l := range told {
			for _, i := range leaves {
				longer = append(longer, append(slices.Clip(l), i))
			}
		}
		told = longer
	}
	return told
}

// P12.1, P12.3: all short lists of a few items against paths that are picked one by one.
func TestOfAllShort(t *testing.T) {
	var n [12]int
	leaves := parsed(t, "A a ; !B b[b.y < 1] ; !C c ; A d{1,2} ; B e{2,3}[e.y == e.k] ; (A a | B b) ; (C c | A f ; B g{1,2}) WITHIN 5").Items
	leaves = append(leaves, parsed(t, "((A i | B j ; C k) ; !A l ; A m | B n) WITHIN 5").Items...)
	for length := range 5 {
		for _, l := range allLists(length, leaves) {
			n[checkOf(t, kinds(), pattern.Query{Items: l})]++
			if t.Failed() {
				t.FailNow()
			}
		}
	}
	if n[api.OK] < 1500 || n[api.ErrArg] < 1500 || n[api.ErrLimit] < 500 {
		t.Errorf("told: %v", n)
	}
}

// seq: numbers that look like chance, and are the same each time.
type seq uint64

func (s *seq) below(n int) int {
	*s = *s*6364136223846793005 + 1442695040888963407
	return int(uint64(*s>>33) % uint64(n))
}

// items: a text of up to so many, that neither begins nor ends with a Not, with Alts as deep.
func (s *seq) items(most, deep int) string {
	told := s.item(deep)
	for range s.below(most) {
		for range s.below(3) {
			told += " ; !" + s.event()
		}
		told += " ; " + s.item(deep)
	}
	return told
}

func (s *seq) item(deep int) string {
	if deep > 0 && s.below(3) == 0 {
		told := "(" + s.items(2, deep-1)
		for range 1 + s.below(2) {
			told += " | " + s.items(2, deep-1)
		}
		return told + ")"
	}
	name, pred, _ := strings.Cut(s.event(), "[")
	if low := 1 + s.below(4); s.below(3) == 0 {
		name += fmt.Sprintf("{%d,%d}", low, low+s.below(5-low))
	}
	if pred != "" {
		name += "[" + pred
	}
	return name
}

func (s *seq) event() string {
	v := string(rune('a' + s.below(4)))
	told := string(rune('A'+s.below(3))) + " " + v
	if s.below(3) == 0 {
		told += fmt.Sprintf("[%s.k < %d || !(%s.k == -%s.k)]", v, s.below(100), v, v)
	}
	return told
}

// P12.1, P12.3: many longer ones.
func TestOfManyLonger(t *testing.T) {
	s := seq(21)
	var n [12]int
	for range 20000 {
		q, _, e := parse.Parse(s.items(5, 2) + " WITHIN 5 BY k")
		if e == api.OK {
			e = checkOf(t, kinds(), q)
		}
		n[e]++
		if t.Failed() {
			t.FailNow()
		}
	}
	if n[api.OK] < 8000 || n[api.ErrLimit] < 1000 || n[api.OK]+n[api.ErrLimit] != 20000 {
		t.Errorf("told: %v", n)
	}
}

// seen has the place of each thing that stands in a list, or in its room.
type seen map[any]bool

func see[T any](had seen, l []T) (twice bool) {
	for at := range l[:cap(l)] {
		place := &l[:cap(l)][at]
		twice = twice || had[place]
		had[place] = true
	}
	return twice
}

func (had seen) exprs(l []expr.Expr) bool {
	twice := see(had, l)
	for _, e := range l {
		twice = had.exprs(e.Kids) || twice
	}
	return twice
}

func (had seen) items(l []pattern.Item) bool {
	twice := see(had, l)
	for _, i := range l {
		twice = had.exprs(i.Pred) || twice
		twice = see(had, i.Kids) || twice
		for _, kid := range i.Kids {
			twice = had.items(kid) || twice
		}
	}
	return twice
}

func (had seen) paths(l [][]path.Step) bool {
	twice := see(had, l)
	for _, steps := range l {
		twice = see(had, steps) || twice
		for _, one := range steps {
			twice = had.exprs(one.Pred) || twice
			twice = see(had, one.Guards) || twice
			for _, g := range one.Guards {
				twice = had.exprs(g.Pred) || twice
			}
		}
	}
	return twice
}

// P3: no list of an answer stands where one of the query does, or another one of it, nor does its room.
func TestAnswersAreNew(t *testing.T) {
	s := seq(22)
	for range 3000 {
		q, _, e := parse.Parse(s.items(4, 2) + " WITHIN 5")
		if e != api.OK {
			continue
		}
		q.Items = roomy(q.Items)
		had := seen{}
		if had.items(q.Items) {
			t.Fatalf("the items of %q share something", pattern.Put(q))
		}
		for range 2 {
			if l, _ := path.Of(kinds(), q); had.paths(l) {
				t.Fatalf("Of(%q) shares something", pattern.Put(q))
			}
		}
	}
}

// roomy: the same, with room behind each list in which something stands.
func roomy(l []pattern.Item) []pattern.Item {
	spare := pattern.Item{Kind: pattern.Not, Name: "Spare", Var: "room", Low: 7}
	var told []pattern.Item
	for _, i := range l {
		i.Pred = roomyExprs(i.Pred)
		var kids [][]pattern.Item
		for _, kid := range i.Kids {
			kids = append(kids, roomy(kid))
		}
		i.Kids = append(kids, []pattern.Item{spare}, nil)[:len(kids)]
		told = append(told, i)
	}
	return append(told, spare, spare)[:len(l)]
}

func roomyExprs(l []expr.Expr) []expr.Expr {
	var told []expr.Expr
	for _, e := range l {
		e.Kids = roomyExprs(e.Kids)
		told = append(told, e)
	}
	return append(told, expr.Expr{Op: "spare"}, expr.Expr{N: 7})[:len(l)]
}

// shown: all that stands in items, and in the room of each list.
func shown(l []pattern.Item) string {
	told := fmt.Sprintf("%+v", l[:cap(l)])
	for _, i := range l {
		told += shownExprs(i.Pred) + fmt.Sprintf("%+v", i.Kids[:cap(i.Kids)])
		for _, kid := range i.Kids {
			told += shown(kid)
		}
	}
	return told
}

func shownExprs(l []expr.Expr) string {
	told := fmt.Sprintf("%+v", l[:cap(l)])
	for _, e := range l {
		told += shownExprs(e.Kids)
	}
	return told
}

// P3, P4: nothing that is handed in is written into, and the same is told again, of what was handed in with room behind too.
func TestNothingIsWritten(t *testing.T) {
	s := seq(23)
	for range 2000 {
		q, _, e := parse.Parse(s.items(4, 2) + " WITHIN 5 BY k")
		if e != api.OK {
			continue
		}
		known, spaced := kinds(), pattern.Query{Items: roomy(q.Items), Within: q.Within, By: q.By}
		was := shown(spaced.Items)
		l, e := path.Of(known, spaced)
		if got := shown(spaced.Items); got != was || !schema.Same(known, kinds()) {
			t.Fatalf("Of(%q) made of\n%s\nthis\n%s", pattern.Put(q), was, got)
		}
		other, otherE := path.Of(kinds(), q)
		if !path.Same(l, other) || e != otherE {
			t.Fatalf("Of(%q) = %+v, %d; then %+v, %d", pattern.Put(q), l, e, other, otherE)
		}
	}
}

// different: paths of which no two are the same, new ones each time.
func different(t *testing.T) [][][]path.Step {
	t.Helper()
	less, more := parsedExpr(t, "a.x < 1"), parsedExpr(t, "a.x < 2")
	preds := [][]expr.Expr{nil, {less}, {more}, {less, less}, {less, more}, {more, less}, {{}}, {{N: -1}}, {{Kind: 9}}, {{Kids: make([]expr.Expr, 1)}}, {{Op: "x"}}, {{Var: "x"}}, {{Field: "x"}}}
	guards := [][]path.Guard{nil, {{}}}
	steps := []path.Step{{}}
	for _, kind := range []int{1, 2, -1, 1 << 32, 1<<32 + 1, math.MinInt, math.MaxInt} {
		steps = append(steps, path.Step{Kind: kind})
		guards = append(guards, []path.Guard{{Kind: kind}})
	}
	for _, v := range []string{"a", "b", "A", "aa", "a ", "\xff", "\ufffd"} {
		steps = append(steps, path.Step{Var: v})
		guards = append(guards, []path.Guard{{Var: v}})
	}
	for _, pred := range preds[1:] {
		steps = append(steps, path.Step{Pred: pred})
		guards = append(guards, []path.Guard{{Pred: pred}})
	}
	guards = append(guards, make([]path.Guard, 2), []path.Guard{{}, {Kind: 1}}, []path.Guard{{Kind: 1}, {}}, []path.Guard{{Var: "a"}, {Var: "b"}}, []path.Guard{{Var: "b"}, {Var: "a"}}, []path.Guard{{Var: "a"}, {Var: "b"}, {}})
	for _, l := range guards[1:] {
		steps = append(steps, path.Step{Guards: l})
	}
	told := [][][]path.Step{nil, {nil}, {nil, nil}, {nil, {{}}}, {{{}}, nil}, {{{}}, {{}}}, {{{}, {}}}, {{{}, {}}, {{}}}, {{{}}, {{}, {}}}, {{{Kind: 1}, {Kind: 2}}}, {{{Kind: 2}, {Kind: 1}}}, {{{Kind: 1}}, {{Kind: 2}}}, {{{Kind: 2}}, {{Kind: 1}}}}
	for _, one := range steps {
		told = append(told, [][]path.Step{{one}}, [][]path.Step{{{Kind: 5}, one}}, [][]path.Step{{{Kind: 5}}, {one}})
	}
	return told
}

// P12.2: all fields, one by one.
func TestSame(t *testing.T) {
	again := different(t)
	for i, a := range different(t) {
		for k, b := range again {
			if got := path.Same(a, b); got != (i == k) {
				t.Errorf("Same(%+v, %+v) = %v", a, b, got)
			}
		}
	}
	// A list of nothing is nil or empty.
	for _, c := range []struct{ a, b [][]path.Step }{
		{nil, [][]path.Step{}}, {[][]path.Step{nil}, [][]path.Step{{}}}, {[][]path.Step{{{}}}, [][]path.Step{{{Pred: []expr.Expr{}, Guards: []path.Guard{}}}}},
		{[][]path.Step{{{Guards: make([]path.Guard, 1)}}}, [][]path.Step{{{Guards: []path.Guard{{Pred: []expr.Expr{}}}}}}}, {[][]path.Step{{{Pred: make([]expr.Expr, 1)}}}, [][]path.Step{{{Pred: []expr.Expr{{Kids: []expr.Expr{}}}}}}},
	} {
		if !path.Same(c.a, c.b) || !path.Same(c.b, c.a) {
			t.Errorf("Same(%+v, %+v) is false", c.a, c.b)
		}
	}
}

// P12.2: paths of queries that differ in one thing.
func TestSameOfQueries(t *testing.T) {
	texts := []string{"A a", "B a", "A b", "A a[a.x < 1]", "A a[a.x < 2]", "A a ; A a", "A a{1,2}", "A a ; !B b ; A a", "A a ; !C b ; A a", "A a ; !B c ; A a", "A a ; !B b[b.y < 1] ; A a", "A a ; !B b[b.y < 2] ; A a", "A a ; !B b ; !B b ; A a", "A a ; !B b ; !C c ; A a", "A a ; !C c ; !B b ; A a", "A a ; !B b ; A a{1,2}", "(A a | B b)", "(B b | A a)", "(A a | B b | A a)", "A a{2,3}", "A a{1,3}"}
	for i, a := range texts {
		for k, b := range texts {
			if got := path.Same(pathsOf(t, a), pathsOf(t, b)); got != (i == k) {
				t.Errorf("Same of %q, %q = %v", a, b, got)
			}
		}
	}
	for a, b := range map[string]string{"A a{1,1}": "A a", "A a{2,2} ; B b": "A a ; A a{1,1} ; B b", "(A a | B b ; A c) ; !C d ; C e": "(A a ; !C d ; C e | B b ; A c ; !C d ; C e)", "A a{1,3}": "(A a | A a ; A a | A a{3,3})", "((A a | B b) | C c)": "(A a | (B b | C c))"} {
		if !path.Same(pathsOf(t, a), pathsOf(t, b)) {
			t.Errorf("Same of %q, %q is false", a, b)
		}
	}
}

// P12.2: how many Steps the longest one has, wherever it stands.
func TestLongest(t *testing.T) {
	of := func(lengths ...int) (told [][]path.Step) {
		for _, n := range lengths {
			told = append(told, make([]path.Step, n))
		}
		return told
	}
	for _, c := range []struct {
		l    [][]path.Step
		want int
	}{
		{nil, 0}, {of(), 0}, {[][]path.Step{nil}, 0}, {of(0), 0}, {of(0, 0), 0}, {of(1), 1}, {of(0, 1), 1}, {of(1, 0), 1}, {of(3, 2, 1), 3}, {of(1, 2, 3), 3}, {of(1, 3, 2), 3}, {of(3, 3), 3}, {of(12), 12}, {of(12, 13), 13}, {of(100000, 7), 100000}, {make([][]path.Step, 100000), 0},
		{[][]path.Step{{{Guards: make([]path.Guard, 9), Pred: make([]expr.Expr, 9)}}}, 1},
	} {
		if got := path.Longest(c.l); got != c.want {
			t.Errorf("Longest of %d paths = %d; want %d", len(c.l), got, c.want)
		}
	}
}

// chain: a Pred that is so deep.
func chain(n int, last expr.Expr) expr.Expr {
	for range n {
		last = expr.Expr{Kind: expr.Unary, Op: "!", Kids: []expr.Expr{last}}
	}
	return last
}

// P1: what is deep, and what is long.
func TestDeepAndLong(t *testing.T) {
	with := func(last expr.Expr, guarded bool) [][]path.Step {
		if guarded {
			return [][]path.Step{{{Guards: []path.Guard{{Pred: []expr.Expr{chain(99999, last)}}}}}}
		}
		return [][]path.Step{{{Pred: []expr.Expr{chain(99999, last)}}}}
	}
	for _, guarded := range []bool{false, true} {
		if !path.Same(with(expr.Expr{N: 1}, guarded), with(expr.Expr{N: 1}, guarded)) || path.Same(with(expr.Expr{N: 1}, guarded), with(expr.Expr{N: 2}, guarded)) {
			t.Error("Same of deep Preds")
		}
	}
	long := slices.Repeat([][]path.Step{slices.Repeat([]path.Step{{Var: "a"}}, 1000)}, 1000)
	if other := append(slices.Clone(long[:999]), append(slices.Clone(long[0][:999]), path.Step{Var: "b"})); !path.Same(long, slices.Clone(long)) || path.Same(long, other) {
		t.Error("Same of long paths")
	}
	a := []pattern.Item{{Name: "A", Var: "a"}}
	deep := func(n int, l []pattern.Item) []pattern.Item {
		for range n {
			l = []pattern.Item{{Kind: pattern.Alt, Kids: [][]pattern.Item{a, l}}}
		}
		return l
	}
	for _, c := range []struct {
		items []pattern.Item
		want  api.Errno
	}{
		{deep(5, a), api.OK}, {deep(6, a), api.ErrLimit}, {deep(99999, a), api.ErrLimit}, {deep(99999, nil), api.ErrArg}, {[]pattern.Item{{Name: "A", Var: "a", Pred: []expr.Expr{chain(99999, parsedExpr(t, "1 < 2"))}}}, api.ErrLimit},
		{[]pattern.Item{{Name: "A", Var: "a", Pred: []expr.Expr{chain(253, parsedExpr(t, "1 < 2"))}}}, api.OK}, {[]pattern.Item{{Kind: pattern.Alt, Kids: slices.Repeat([][]pattern.Item{a}, 300000)}}, api.ErrLimit},
	} {
		l, e := path.Of(kinds(), pattern.Query{Items: c.items})
		if e != c.want || (l == nil) != (e != api.OK) {
			t.Errorf("Of a great one tells %d paths, %d; want %d", len(l), e, c.want)
		}
	}
}
