package check_test

import (
	"math"
	"math/big"
	"slices"
	"strings"
	"testing"

	"jettison/api"
	"jettison/check"
	"jettison/expr"
	"jettison/parse"
	"jettison/pattern"
	"jettison/schema"
)

func ref(name, field string) expr.Expr {
	return expr.Expr{Kind: expr.Ref, Var: name, Field: field}
}

func binary(op string, first, second expr.Expr) expr.Expr {
	return expr.Expr{Kind: expr.Binary, Op: op, Kids: []expr.Expr{first, second}}
}

func one(name, v string, pred ...expr.Expr) pattern.Item {
	return pattern.Item{Kind: pattern.One, Name: name, Var: v, Pred: pred}
}

func times(name, v string, low, high int, pred ...expr.Expr) pattern.Item {
	return pattern.Item{Kind: pattern.Times, Name: name, Var: v, Low: low, High: high, Pred: pred}
}

func not(name, v string, pred ...expr.Expr) pattern.Item {
	return pattern.Item{Kind: pattern.Not, Name: name, Var: v, Pred: pred}
}

func alt(kids ...[]pattern.Item) pattern.Item {
	return pattern.Item{Kind: pattern.Alt, Kids: kids}
}

func items(l ...pattern.Item) []pattern.Item {
	return l
}

// between: a Times without names, as a count asks for none.
func between(low, high int) pattern.Item {
	return pattern.Item{Kind: pattern.Times, Low: low, High: high}
}

// kinds: what the queries of the tests are held against. All have k, two each have x, y; there is no D.
func kinds() []schema.Kind {
	return []schema.Kind{{Name: "A", Fields: []string{"k", "x"}}, {Name: "B", Fields: []string{"y", "k"}}, {Name: "C", Fields: []string{"x", "k", "y"}}}
}

// mostKinds: as many as there may be, each with a field all, and one of its own, as its name in lower case.
func mostKinds() (told []schema.Kind) {
	for at := range 16 {
		name := string(rune('A' + at))
		told = append(told, schema.Kind{Name: name, Fields: []string{"all", strings.ToLower(name)}})
	}
	return told
}

func parsed(t *testing.T, text string) pattern.Query {
	t.Helper()
	q, at, e := parse.Parse(text)
	if e != api.OK {
		t.Fatalf("Parse(%q): %d at %d", text, e, at)
	}
	return q
}

func parsedItems(t *testing.T, text string) []pattern.Item {
	t.Helper()
	l, at, e := parse.Items(text)
	if e != api.OK {
		t.Fatalf("Items(%q): %d at %d", text, e, at)
	}
	return l
}

func parsedExpr(t *testing.T, text string) expr.Expr {
	t.Helper()
	x, at, e := parse.Expr(text)
	if e != api.OK {
		t.Fatalf("Expr(%q): %d at %d", text, e, at)
	}
	return x
}

// seq: numbers that look like chance, and are the same each time.
type seq uint64

func (s *seq) below(n int) int {
	*s = *s*6364136223846793005 + 1442695040888963407
	return int(uint64(*s>>33) % uint64(n))
}

func pick[T any](s *seq, l []T) T {
	return l[s.below(len(l))]
}

// deepCopy: to see later whether something was written; spare room is copied too.
func deepCopy(l []pattern.Item) []pattern.Item {
	told := slices.Clone(l[:cap(l)])
	for at, i := range told {
		told[at].Pred = copyExprs(i.Pred)
		kids := slices.Clone(i.Kids[:cap(i.Kids)])
		for k := range kids {
			kids[k] = deepCopy(kids[k])
		}
		told[at].Kids = kids[:len(i.Kids)]
	}
	return told[:len(l)]
}

func copyExprs(l []expr.Expr) []expr.Expr {
	told := slices.Clone(l[:cap(l)])
	for at, e := range told {
		told[at].Kids = copyExprs(e.Kids)
	}
	return told[:len(l)]
}

// spaced: the same, with room behind each list in which something stands.
func spaced(l []pattern.Item) []pattern.Item {
	var told []pattern.Item
	for _, i := range l {
		i.Pred = append(slices.Clone(i.Pred), ref("spare", "room"), binary("+", ref("a", "x"), ref("b", "y")))[:len(i.Pred)]
		var kids [][]pattern.Item
		for _, kid := range i.Kids {
			kids = append(kids, spaced(kid))
		}
		i.Kids = append(kids, items(not("Spare", "room")), nil)[:len(kids)]
		told = append(told, i)
	}
	return append(told, one("Spare", "room"), not("Spare", "room"), alt(items(one("Spare", "room"))))[:len(l)]
}

// expectedPaths: by the chapter's words, with numbers of any size; what is above the most is made it at the end alone.
func expectedPaths(l []pattern.Item) *big.Int {
	told := big.NewInt(1)
	for _, i := range l {
		of := big.NewInt(1)
		switch i.Kind {
		case 1:
			of.Sub(big.NewInt(int64(i.High)), big.NewInt(int64(i.Low)))
			of.Add(of, big.NewInt(1))
			if of.Sign() < 0 {
				of.SetInt64(0)
			}
		case 3:
			of.SetInt64(0)
			for _, kid := range i.Kids {
				of.Add(of, expectedPaths(kid))
			}
		}
		told.Mul(told, of)
	}
	return told
}

func expectedSteps(l []pattern.Item) *big.Int {
	told := new(big.Int)
	for _, i := range l {
		of := big.NewInt(1)
		switch i.Kind {
		case 1:
			of.SetInt64(int64(i.High))
			if i.High < 0 {
				of.SetInt64(0)
			}
		case 2:
			of.SetInt64(0)
		case 3:
			of.SetInt64(0)
			for _, kid := range i.Kids {
				if steps := expectedSteps(kid); steps.Cmp(of) > 0 {
					of = steps
				}
			}
		}
		told.Add(told, of)
	}
	return told
}

func expectedCode(l []pattern.Item) (told int) {
	for _, i := range l {
		told += expectedSize(i.Pred)
		told += expectedCode(slices.Concat(i.Kids...))
	}
	return told
}

func expectedSize(l []expr.Expr) int {
	told := len(l)
	for _, e := range l {
		told += expectedSize(e.Kids)
	}
	return told
}

// cut: the most that is told.
func cut(n *big.Int) int {
	if n.Cmp(big.NewInt(1<<20)) > 0 {
		return 1 << 20
	}
	return int(n.Int64())
}

// straight: how many events each straight path of l takes, by going each of them; l is right.
func straight(l []pattern.Item) []int {
	told := []int{0}
	for _, i := range l {
		var ways []int
		switch i.Kind {
		case pattern.One:
			ways = []int{1}
		case pattern.Not:
			ways = []int{0}
		case pattern.Times:
			for n := i.Low; n <= i.High; n++ {
				ways = append(ways, n)
			}
		case pattern.Alt:
			for _, kid := range i.Kids {
				ways = append(ways, straight(kid)...)
			}
		}
		var longer []int
		for _, ahead := range told {
			for _, more := range ways {
				longer = append(longer, ahead+more)
			}
		}
		told = longer
	}
	return told
}

// allLists: l, and each Kid that is below.
func allLists(l []pattern.Item) [][]pattern.Item {
	told := [][]pattern.Item{l}
	for _, i := range l {
		for _, kid := range i.Kids {
			told = append(told, allLists(kid)...)
		}
	}
	return told
}

// events: the items of l that are no Alts, in the order in which they stand in a text.
func events(l []pattern.Item) (told []pattern.Item) {
	for _, i := range l {
		if i.Kind == pattern.Alt {
			told = append(told, events(slices.Concat(i.Kids...))...)
		} else {
			told = append(told, i)
		}
	}
	return told
}

func refs(e expr.Expr) (told []expr.Expr) {
	if e.Kind == expr.Ref {
		told = append(told, e)
	}
	for _, kid := range e.Kids {
		told = append(told, refs(kid)...)
	}
	return told
}

// hasField: has the kind of that name the field? There may be no such kind.
func hasField(s []schema.Kind, name, field string) bool {
	for _, k := range s {
		if k.Name == name {
			return slices.Contains(k.Fields, field)
		}
	}
	return false
}

// expectedRefs: do all Refs of l[at] find what they name? What is bound is looked for anew in all that stands ahead.
func expectedRefs(s []schema.Kind, l []pattern.Item, at int) bool {
	for _, r := range refs(l[at].Pred[0]) {
		if r.Var == l[at].Var {
			if !hasField(s, l[at].Name, r.Field) {
				return false
			}
			continue
		}
		bound := false
		for _, ahead := range l[:at] {
			if ahead.Kind == pattern.Not || ahead.Var != r.Var {
				continue
			}
			bound = true
			if !hasField(s, ahead.Name, r.Field) {
				return false
			}
		}
		if !bound {
			return false
		}
	}
	return true
}

// expectedCheck: by the chapter's words, of a query whose paths are few enough to go each of them.
func expectedCheck(s []schema.Kind, q pattern.Query) api.Errno {
	if e := schema.Right(s); e != api.OK {
		return e
	}
	if !pattern.Right(q) {
		return api.ErrArg
	}
	count := 0
	for _, l := range allLists(q.Items) {
		if l[0].Kind == pattern.Not || l[len(l)-1].Kind == pattern.Not {
			return api.ErrArg
		}
		count += len(l)
	}
	ways := straight(q.Items)
	if count > 12 || len(ways) > 32 || slices.Max(ways) > 12 || expectedCode(q.Items) > 256 {
		return api.ErrLimit
	}
	l := events(q.Items)
	for at, i := range l {
		if !slices.ContainsFunc(s, func(k schema.Kind) bool { return k.Name == i.Name }) {
			return api.ErrName
		}
		if q.By != "" && !hasField(s, i.Name, q.By) {
			return api.ErrName
		}
		if len(i.Pred) == 0 {
			continue
		}
		if expr.Type(i.Pred[0]) != expr.Truth {
			return api.ErrType
		}
		if !expectedRefs(s, l, at) {
			return api.ErrName
		}
	}
	return api.OK
}

func checkPaths(t *testing.T, l []pattern.Item, want int) {
	t.Helper()
	if got := check.Paths(l); got != want {
		t.Errorf("Paths(%+v) = %d; want %d", l, got, want)
	}
}

func checkSteps(t *testing.T, l []pattern.Item, want int) {
	t.Helper()
	if got := check.Steps(l); got != want {
		t.Errorf("Steps(%+v) = %d; want %d", l, got, want)
	}
}

func checkCode(t *testing.T, l []pattern.Item, want int) {
	t.Helper()
	if got := check.Code(l); got != want {
		t.Errorf("Code(%+v) = %d; want %d", l, got, want)
	}
}

// checkQuery asks of the query, and that what is OK has no more than there may be.
func checkQuery(t *testing.T, s []schema.Kind, q pattern.Query, want api.Errno) {
	t.Helper()
	got := check.Check(s, q)
	if got != want {
		t.Errorf("Check(%q, %q) = %d; want %d; its items are %+v", schema.Put(s), pattern.Put(q), got, want, q.Items)
	}
	if got == api.OK {
		checkWithinLimits(t, q.Items)
	}
}

// P11.3: by each path gone, and by what the calls tell.
func checkWithinLimits(t *testing.T, l []pattern.Item) {
	t.Helper()
	ways := straight(l)
	if len(ways) > 32 || check.Paths(l) != len(ways) {
		t.Errorf("%+v has %d paths, and is told to have %d", l, len(ways), check.Paths(l))
	}
	if slices.Max(ways) > 12 || check.Steps(l) != slices.Max(ways) {
		t.Errorf("%+v has %d steps, and is told to have %d", l, slices.Max(ways), check.Steps(l))
	}
	if code := expectedCode(l); code > 256 || check.Code(l) != code {
		t.Errorf("%+v has code %d, and is told to have %d", l, code, check.Code(l))
	}
}

func checkText(t *testing.T, text string, want api.Errno) {
	t.Helper()
	checkQuery(t, kinds(), parsed(t, text), want)
}

// P11.1: what each kind of item counts.
func TestPaths(t *testing.T) {
	for text, want := range map[string]int{
		"A a": 1, "!A a": 1, "A a ; B b ; !C c ; A d": 1, "A a{1,3}": 3, "A a{1,1}": 1, "A a{4,4}": 1, "A a{1,4}": 4, "A a{2,3} ; !B b ; A a{1,4} ; A c": 8,
		"(A a | B b)": 2, "(A a | B b | !C c)": 3, "(A a{1,3} | B b{1,2} ; C c{2,4})": 9, "(A a | B b) ; (A a | B b | C c)": 6,
		"((A a | B b) ; A a{1,2} | C c)": 5, "A a{1,2} ; (A a | B b{1,2} ; (C c | A d))": 10, "A a[a.x < 1]": 1,
	} {
		checkPaths(t, parsedItems(t, text), want)
	}
	checkPaths(t, nil, 1)
	checkPaths(t, items(), 1)
	checkPaths(t, items(alt()), 0)
	checkPaths(t, items(alt(nil)), 1)
	checkPaths(t, items(alt(nil, items(), nil)), 3)
	checkPaths(t, items(one("A", "a"), alt(), times("A", "a", 1, 4)), 0)
	checkPaths(t, items(alt(items(alt()), items(one("A", "a")))), 1)
}

// P11.1: what each kind of item counts.
func TestSteps(t *testing.T) {
	for text, want := range map[string]int{
		"A a": 1, "!A a": 0, "A a ; B b ; !C c ; A d": 3, "A a{1,3}": 3, "A a{1,1}": 1, "A a{4,4}": 4, "A a{2,3} ; !B b ; A a{1,4} ; A c": 8,
		"(A a | B b)": 1, "(A a | B b ; C c)": 2, "(A a ; B b ; C c | B b | A a)": 3, "(!A a | !B b)": 0, "(A a{1,3} | B b{1,2} ; C c{2,4})": 6,
		"(A a | B b) ; (A a | B b ; A d | C c)": 3, "((A a | B b{1,3}) ; A a{1,2} | C c)": 5, "A a[a.x < 1]": 1,
	} {
		checkSteps(t, parsedItems(t, text), want)
	}
	checkSteps(t, nil, 0)
	checkSteps(t, items(), 0)
	checkSteps(t, items(alt()), 0)
	checkSteps(t, items(alt(nil, items())), 0)
	checkSteps(t, items(alt(), one("A", "a"), alt(items(alt()), items(times("A", "a", 4, 2)))), 3)
}

// P11.1: Preds of each kind of item, more than one of them, and what is below, whatever it is below of.
func TestCode(t *testing.T) {
	for text, want := range map[string]int{
		"A a": 0, "A a[1]": 1, "A a[a.x]": 1, "A a[a.x < 1]": 3, "!A a[a.x < 1 + 2]": 5, "A a{1,4}[!(a.x < 1)]": 4, "A a[a.x < 1] ; B b[1]": 4,
		"(A a[1] | B b[2 < 3]) ; C c[-c.x]": 6, "((A a[1] | B b) ; C c[1] | B b ; A a[1])": 3,
	} {
		checkCode(t, parsedItems(t, text), want)
	}
	checkCode(t, nil, 0)
	checkCode(t, items(alt()), 0)
	less, sum := parsedExpr(t, "a.x < 1"), parsedExpr(t, "1 + 2 * 3")
	checkCode(t, items(one("A", "a", less, sum, less)), 11)
	for kind := -1; kind <= 5; kind++ {
		kids := [][]pattern.Item{items(one("A", "a", sum)), nil, items(one("A", "a"), times("A", "a", 1, 2, less, less))}
		checkCode(t, items(pattern.Item{Kind: kind, Pred: []expr.Expr{less}, Kids: kids}), 3+5+6)
		checkCode(t, items(alt(items(pattern.Item{Kind: kind, Pred: []expr.Expr{less}, Kids: kids}), items(one("A", "a", sum)))), 3+5+6+5)
	}
	checkCode(t, items(one("A", "a", expr.Expr{Kind: 9, Kids: []expr.Expr{{}, {Kids: make([]expr.Expr, 5)}}})), 8)
}

// P11.1: an item of another Kind counts as a One, whatever else it has; and what is not said of a kind is not counted.
func TestOtherKinds(t *testing.T) {
	kids := [][]pattern.Item{items(times("A", "a", 1, 4)), items(one("A", "a"), one("A", "b"), one("A", "c"))}
	for _, kind := range []int{-1, -2, 0, 4, 5, 255, 256, 257, 258, 259, 1 << 32, 1<<32 + 1, 1<<32 + 2, 1<<32 + 3, math.MaxInt, math.MinInt} {
		i := pattern.Item{Kind: kind, Name: "A", Var: "a", Low: 1, High: 4, Kids: kids}
		checkPaths(t, items(i), 1)
		checkSteps(t, items(i), 1)
		checkPaths(t, items(between(1, 3), i, alt(items(i), items(i, i))), 6)
		checkSteps(t, items(between(1, 3), i, alt(items(i), items(i, i))), 6)
		checkSteps(t, items(pattern.Item{Kind: kind}), 1)
	}
	no := pattern.Item{Kind: pattern.Not, Low: 1, High: 4, Kids: kids}
	checkPaths(t, items(no), 1)
	checkSteps(t, items(no), 0)
	several := pattern.Item{Kind: pattern.Times, Low: 2, High: 3, Kids: kids}
	checkPaths(t, items(several), 2)
	checkSteps(t, items(several), 3)
	either := pattern.Item{Kind: pattern.Alt, Low: 5, High: 9, Kids: kids}
	checkPaths(t, items(either), 5)
	checkSteps(t, items(either), 4)
}

// P11.1: Low and High may be any numbers, and what would wrap does not.
func TestCountsOfAnyTimes(t *testing.T) {
	for _, c := range []struct{ low, high, paths, steps int }{
		{0, 0, 1, 0}, {1, 0, 0, 0}, {2, 0, 0, 0}, {0, 1, 2, 1}, {0, -1, 0, 0}, {-1, -1, 1, 0}, {-1, 0, 2, 0}, {-5, -3, 3, 0}, {-3, -5, 0, 0}, {5, 4, 0, 4}, {9, 5, 0, 5},
		{1, 1<<20 - 1, 1<<20 - 1, 1<<20 - 1}, {1, 1 << 20, 1 << 20, 1 << 20}, {1, 1<<20 + 1, 1 << 20, 1 << 20}, {0, 1<<20 - 1, 1 << 20, 1<<20 - 1},
		{2, 1<<20 + 1, 1 << 20, 1 << 20}, {3, 1<<20 + 1, 1<<20 - 1, 1 << 20}, {0, 1 << 20, 1 << 20, 1 << 20}, {-1 << 20, 0, 1 << 20, 0}, {-1<<20 + 1, 0, 1 << 20, 0}, {-1<<20 + 2, 0, 1<<20 - 1, 0},
		{1, 1 << 32, 1 << 20, 1 << 20}, {1, 1<<32 + 1, 1 << 20, 1 << 20}, {1, math.MaxInt, 1 << 20, 1 << 20}, {0, math.MaxInt, 1 << 20, 1 << 20}, {-1, math.MaxInt, 1 << 20, 1 << 20},
		{math.MinInt, math.MaxInt, 1 << 20, 1 << 20}, {math.MinInt + 1, math.MaxInt, 1 << 20, 1 << 20}, {math.MinInt, 0, 1 << 20, 0}, {math.MinInt, -1, 1 << 20, 0},
		{math.MinInt, math.MinInt, 1, 0}, {math.MinInt, math.MinInt + 1, 2, 0}, {math.MaxInt, math.MaxInt, 1, 1 << 20}, {math.MaxInt - 1, math.MaxInt, 2, 1 << 20},
		{math.MaxInt, math.MinInt, 0, 0}, {math.MaxInt, math.MinInt + 1, 0, 0}, {math.MaxInt, 0, 0, 0}, {math.MaxInt, -1, 0, 0}, {0, math.MinInt, 0, 0}, {1, math.MinInt, 0, 0}, {2, math.MinInt, 0, 0},
	} {
		l := items(between(c.low, c.high))
		checkPaths(t, l, c.paths)
		checkSteps(t, l, c.steps)
		checkPaths(t, items(alt(l)), c.paths)
		checkSteps(t, items(alt(l, nil)), c.steps)
	}
}

// P11.1: a product and a sum up to 2^20, and above it.
func TestCountsAtMost(t *testing.T) {
	k := between(1, 1<<10)
	checkPaths(t, items(k, k), 1<<20)
	checkPaths(t, items(k, between(1, 1<<10-1)), 1<<20-1<<10)
	checkPaths(t, items(k, between(1, 1<<10+1)), 1<<20)
	checkPaths(t, items(between(1, 3), between(1, 349525)), 1<<20-1)
	checkPaths(t, items(between(1, 17), between(1, 61681)), 1<<20)
	checkPaths(t, items(alt(items(between(1, 1<<19)), items(between(1, 1<<19-1)))), 1<<20-1)
	checkPaths(t, items(alt(items(between(1, 1<<19)), items(between(1, 1<<19)))), 1<<20)
	checkPaths(t, items(alt(items(between(1, 1<<19)), items(between(1, 1<<19)), nil)), 1<<20)
	for _, n := range []int{3, 4, 6, 7, 13, 64, 1000} {
		checkPaths(t, slices.Repeat(items(k), n), 1<<20)
		checkPaths(t, slices.Repeat(items(between(1, 2), between(1, 1<<20)), n), 1<<20)
		checkPaths(t, append(slices.Repeat(items(k), n), between(2, 1)), 0)
		checkPaths(t, append(items(alt()), slices.Repeat(items(k), n)...), 0)
		checkPaths(t, items(alt(slices.Repeat([][]pattern.Item{{between(1, math.MaxInt)}}, n)...)), 1<<20)
		checkPaths(t, items(alt(slices.Repeat([][]pattern.Item{{k, k}}, n)...), k), 1<<20)
		checkSteps(t, slices.Repeat(items(between(1, 1<<20)), n), 1<<20)
		checkSteps(t, slices.Repeat(items(between(1, math.MaxInt)), n), 1<<20)
		checkSteps(t, slices.Repeat(items(between(1, 1<<19)), n), 1<<20)
		checkSteps(t, items(alt(slices.Repeat([][]pattern.Item{{k, k}}, n)...)), 1<<11)
	}
	for _, n := range []int{-3, -1, 0, 1, 3, math.MaxInt - 1<<20} {
		want := min(1<<20, 1<<20+n)
		checkSteps(t, items(between(1, 1<<20+n)), want)
		checkSteps(t, items(one("A", "a"), between(1, 1<<20+n-1)), want)
		checkSteps(t, items(between(1, 1<<20+n-1), not("A", "a"), one("A", "a")), want)
		checkSteps(t, items(alt(items(one("A", "a"), between(1, 1<<20+n-1)), items(one("A", "a")))), want)
	}
	checkSteps(t, items(between(1, math.MaxInt), between(1, math.MinInt)), 1<<20)
	checkSteps(t, items(between(1, math.MaxInt), one("A", "a"), between(1, math.MaxInt)), 1<<20)
}

// anyItems: trees of all kinds, and of none, with any numbers.
func (s *seq) anyItems(most, deep int, numbers []int, preds []expr.Expr) (told []pattern.Item) {
	for range s.below(most + 1) {
		i := pattern.Item{Kind: s.below(5), Low: pick(s, numbers), High: pick(s, numbers)}
		for range s.below(3) {
			i.Pred = append(i.Pred, pick(s, preds))
		}
		for range s.below(4) {
			if deep > 0 {
				i.Kids = append(i.Kids, s.anyItems(most, deep-1, numbers, preds))
			}
		}
		told = append(told, i)
	}
	return told
}

// P11.1: many trees, right or not, against numbers that do not wrap.
func TestCountsOfAnyTrees(t *testing.T) {
	s := seq(11)
	few := []int{-1, 0, 1, 1, 2, 2, 3, 4}
	all := append([]int{math.MinInt, math.MaxInt, 1 << 9, 1 << 10, 1 << 19, 1 << 20, 1<<20 + 1, -1 << 20}, few...)
	preds := []expr.Expr{{}, parsedExpr(t, "a.x < 1"), {Kind: 9, Kids: make([]expr.Expr, 3)}, parsedExpr(t, "!(1 + 2 + 3 < -b.y)")}
	between0andMost := 0
	for n := range 60000 {
		l := s.anyItems(1+n%5, n%4, [][]int{few, all}[n/20%2], preds)
		paths := cut(expectedPaths(l))
		if paths > 1 && paths < 1<<20 {
			between0andMost++
		}
		checkPaths(t, l, paths)
		checkSteps(t, l, cut(expectedSteps(l)))
		checkCode(t, l, expectedCode(l))
		if t.Failed() {
			t.FailNow()
		}
	}
	if between0andMost < 5000 {
		t.Errorf("%d had some paths, and not the most", between0andMost)
	}
}

// P11.1: all that is right has as many paths, and steps, as are gone.
func TestCountsByGoing(t *testing.T) {
	s := seq(12)
	for range 20000 {
		l := s.rightItems(4, 2, leaves())
		ways := straight(l)
		checkPaths(t, l, len(ways))
		checkSteps(t, l, slices.Max(ways))
	}
}

// leaves: right items without Kids.
func leaves() []pattern.Item {
	return items(one("A", "a"), one("B", "b"), not("C", "c"), times("A", "a", 1, 2), times("A", "b", 2, 3), times("B", "b", 3, 3))
}

// rightItems: right lists of these and of Alts of them.
func (s *seq) rightItems(most, deep int, leaves []pattern.Item) (told []pattern.Item) {
	for range 1 + s.below(most) {
		if deep == 0 || s.below(4) > 0 {
			told = append(told, pick(s, leaves))
			continue
		}
		kids := make([][]pattern.Item, 2+s.below(2))
		for at := range kids {
			kids[at] = s.rightItems(2, deep-1, leaves)
		}
		told = append(told, alt(kids...))
	}
	return told
}

// P11.2: queries that may be.
func TestCheckOK(t *testing.T) {
	for _, text := range []string{
		"A a WITHIN 0", "A a WITHIN 1000000000", "A a WITHIN 5 BY k", "A a WITHIN 5 BY x", "A a ; !B b ; C c WITHIN 5 BY k", "C c ; B b WITHIN 5 BY y",
		"A a[a.x < 1] WITHIN 5", "A a{1,4}[a.x < 1] WITHIN 5", "A a ; !B b[b.y == a.x] ; C c WITHIN 5", "A a ; B b[a.x < b.y && b.k == a.k] WITHIN 5",
		"A a[1 < 2] WITHIN 5", "A a[!(1 < 2) || a.k * 2 == -a.x] WITHIN 5", "A a{1,2} ; B b[a.x == 1] WITHIN 5",
		"(A a | B b) ; C c[a.x == b.y] WITHIN 5", "(A a | B b[a.x == 1]) WITHIN 5", "((A a | C c) | B b[a.x == c.y]) ; C d[b.y == a.x] WITHIN 5",
		"A a ; A a[a.x == 1] WITHIN 5", "A a ; C a ; B b[a.x == 1 && a.k == 2] WITHIN 5", "B a ; A a[a.x == 1] WITHIN 5", "A a ; !B a[a.y == 1] ; C c[a.x == 1] WITHIN 5",
		"A a ; !B b ; !C c ; A d WITHIN 5", "A a ; (A b ; !B c ; C d | B e) ; A f WITHIN 5", "(A a ; !A b ; A c | A d) WITHIN 5", "A WITHIN_ WITHIN 5 BY k",
	} {
		checkText(t, text, api.OK)
	}
}

// P11.2: the error of Right of s, whatever else is wrong.
func TestCheckSchema(t *testing.T) {
	right := kinds()
	for _, c := range []struct {
		s    []schema.Kind
		want api.Errno
	}{
		{nil, api.ErrLimit}, {[]schema.Kind{}, api.ErrLimit}, {append(mostKinds(), schema.Kind{Name: "Q"}), api.ErrLimit},
		{append(slices.Clone(right), schema.Kind{Name: "D", Fields: strings.Split("a,b,c,d,e,f,g,h,i", ",")}), api.ErrLimit},
		{append(slices.Clone(right), schema.Kind{Name: "BY"}), api.ErrName}, {append(slices.Clone(right), schema.Kind{Name: "A"}), api.ErrName},
		{append(slices.Clone(right), schema.Kind{Name: "D", Fields: []string{"x", "x"}}), api.ErrName}, {append(slices.Clone(right), schema.Kind{Name: "D", Fields: []string{""}}), api.ErrName},
		{[]schema.Kind{{Name: ""}, {Name: "D", Fields: make([]string, 9)}}, api.ErrName}, {[]schema.Kind{{Name: "D", Fields: make([]string, 9)}, {Name: ""}}, api.ErrLimit},
	} {
		for _, q := range []pattern.Query{
			{}, {Items: items(one("A", "a"))}, {Items: items(not("A", "a"))}, {Items: slices.Repeat(items(one("D", "d")), 20)}, {Items: items(one("D", "d"))}, {Items: items(one("A", "a", expr.Expr{}))},
		} {
			checkQuery(t, c.s, q, c.want)
		}
	}
	for _, s := range [][]schema.Kind{{{Name: "A"}}, mostKinds(), append(kinds(), schema.Kind{Name: "D", Fields: strings.Split("a,b,c,d,e,f,g,h", ",")})} {
		checkQuery(t, s, pattern.Query{Items: items(one("A", "a"))}, api.OK)
		checkQuery(t, s, pattern.Query{}, api.ErrArg)
	}
}

// around: lists in which l stands at each place where a list may, the rest being right, and no Not at an end.
func around(l []pattern.Item) [][]pattern.Item {
	a, b := one("A", "a"), one("B", "b")
	return [][]pattern.Item{l, items(alt(l, items(a))), items(alt(items(a), l)), items(alt(items(a), l, items(b))), items(a, alt(items(b), l), b), items(alt(items(a), items(b)), alt(l, items(b))),
		items(a, alt(items(b), items(a, alt(items(b), l), b)), b), items(a, alt(items(alt(l, items(a))), items(b)))}
}

// P11.2: what is not right, in each place.
func TestCheckNotRight(t *testing.T) {
	a := items(one("A", "a"))
	for _, i := range []pattern.Item{
		{}, one("", "a"), one("A", ""), one("BY", "a"), one("A", "9"), one("A", "a", expr.Expr{N: -1}), one("A", "a", expr.Expr{}, expr.Expr{}), {Kind: 4, Name: "A", Var: "a"},
		{Kind: -1, Name: "A", Var: "a"}, times("A", "a", 0, 1), times("A", "a", 2, 1), times("A", "a", 1, 5), times("A", "a", math.MinInt, math.MaxInt), alt(), alt(a), alt(a, nil), alt(nil, a), alt(nil, nil),
		{Kind: pattern.Alt, Name: "A", Kids: [][]pattern.Item{a, a}}, {Name: "A", Var: "a", Kids: [][]pattern.Item{a, a}}, {Name: "A", Var: "a", High: 1}, one("A", "a", ref("a", "")),
	} {
		for _, l := range [][]pattern.Item{{i}, {i, a[0]}, {a[0], i}, {a[0], i, a[0]}} {
			for _, more := range around(l) {
				checkQuery(t, kinds(), pattern.Query{Items: more}, api.ErrArg)
			}
		}
	}
	for _, q := range []pattern.Query{
		{}, {Within: 5, By: "k"}, {Items: items()}, {Items: a, Within: -1}, {Items: a, Within: 1000000001}, {Items: a, Within: math.MinInt64}, {Items: a, Within: math.MaxInt64}, {Items: a, By: "9"}, {Items: a, By: "BY"},
		{Items: a, By: strings.Repeat("k", 25)},
	} {
		checkQuery(t, kinds(), q, api.ErrArg)
	}
}

// P11.2: a Not at an end of Items, or of a Kid; one between is none.
func TestCheckNotAtEnd(t *testing.T) {
	a, b, n := one("A", "a"), one("B", "b"), not("C", "c")
	either := alt(items(a), items(b))
	for _, l := range [][]pattern.Item{{n}, {n, n}, {n, a}, {a, n}, {n, a, n}, {a, b, n}, {n, a, b}, {n, n, a}, {a, n, n}, {n, either}, {either, n}} {
		for _, more := range around(l) {
			checkQuery(t, kinds(), pattern.Query{Items: more}, api.ErrArg)
		}
	}
	for _, l := range [][]pattern.Item{{a, n, b}, {a, n, n, b}, {a, n, n, n, b}, {a, n, b, n, a}, {either, n, a}, {a, n, either}, {either, n, either}} {
		for _, more := range around(l) {
			checkQuery(t, kinds(), pattern.Query{Items: more}, expectedCheck(kinds(), pattern.Query{Items: more}))
			if check.Check(kinds(), pattern.Query{Items: more}) == api.ErrArg {
				t.Errorf("ErrArg of %q", pattern.PutItems(more))
			}
		}
		checkQuery(t, kinds(), pattern.Query{Items: l}, api.OK)
	}
	// Beside a Kid a Not is between, though it stands at no end of what is straight.
	checkQuery(t, kinds(), pattern.Query{Items: items(either, n, either)}, api.OK)
}

// sized: a Truth of so many Exprs, an odd number from 3 on, or 4.. with a `-`.
func sized(n int) expr.Expr {
	number := expr.Expr{N: 1}
	first := number
	if n%2 == 0 {
		first = expr.Expr{Kind: expr.Unary, Op: "-", Kids: []expr.Expr{number}}
		n--
	}
	for ; n > 3; n -= 2 {
		first = binary("+", first, number)
	}
	return binary("<", first, number)
}

// P11.2: each limit at the most, and one above it, all others held.
func TestCheckLimits(t *testing.T) {
	a, n := one("A", "a"), not("B", "b")
	within := func(items []pattern.Item, want api.Errno) {
		t.Helper()
		checkQuery(t, kinds(), pattern.Query{Items: items, Within: 5, By: "k"}, want)
	}
	nots := func(count int) []pattern.Item { return append(append(items(a), slices.Repeat(items(n), count)...), a) }
	// Count: straight, and with those in Alts, and the Alts themselves.
	within(nots(10), api.OK)
	within(nots(11), api.ErrLimit)
	within(slices.Repeat(items(a), 12), api.OK)
	within(slices.Repeat(items(a), 13), api.ErrLimit)
	within(items(alt(nots(4), nots(3))), api.OK)
	within(items(alt(nots(4), nots(4))), api.ErrLimit)
	within(items(alt(slices.Repeat([][]pattern.Item{{a}}, 11)...)), api.OK)
	within(items(alt(slices.Repeat([][]pattern.Item{{a}}, 12)...)), api.ErrLimit)
	nested := alt(items(alt(items(a), items(a)), a), items(alt(items(a), items(a)), a, a, a))
	within(items(nested, a), api.OK)
	within(items(nested, a, a), api.ErrLimit)
	// Paths.
	times4 := times("A", "a", 1, 4)
	within(items(times4, times4, times("A", "a", 1, 2)), api.OK)
	within(items(times4, times4, times("A", "a", 1, 3)), api.ErrLimit)
	within(items(alt(items(times4, times4), items(times4, times4))), api.OK)
	within(items(alt(items(times4, times4), items(times4, times4), items(a))), api.ErrLimit)
	times3 := times("A", "a", 2, 4)
	within(items(alt(items(times4, times4), items(alt(items(times4, times3), items(times4))))), api.OK)
	within(items(alt(items(times4, times4), items(alt(items(times4, times3), items(times4))), items(a))), api.ErrLimit)
	within(items(alt(items(times4, times4), items(alt(items(times4, times3), items(times3)))), alt(items(a), items(a))), api.ErrLimit)
	// Steps.
	just4 := times("A", "a", 4, 4)
	within(items(just4, just4, just4), api.OK)
	within(items(just4, just4, just4, a), api.ErrLimit)
	within(items(just4, n, alt(items(a), items(just4, just4)), n, n, alt(items(alt(items(a), items(a))), items(a))), api.ErrLimit)
	within(items(just4, n, n, n, alt(items(a), items(just4, just4))), api.OK)
	within(items(just4, times("A", "a", 2, 4), times("A", "a", 2, 4)), api.OK)
	within(items(a, just4, times("A", "a", 2, 4), times("A", "a", 1, 4)), api.ErrLimit)
	// Code: of one Pred, and of several wherever they stand.
	within(items(one("A", "a", sized(255))), api.OK)
	within(items(one("A", "a", sized(256))), api.OK)
	within(items(one("A", "a", sized(257))), api.ErrLimit)
	within(items(one("A", "a", sized(1001))), api.ErrLimit)
	for size, want := range map[int]api.Errno{99: api.OK, 100: api.OK, 101: api.ErrLimit, 102: api.ErrLimit} {
		within(items(one("A", "a", sized(50)), not("B", "b", sized(50)), alt(items(times("A", "a", 1, 2, sized(26))), items(one("A", "a", sized(size)), not("B", "b", sized(30)), a))), want)
	}
	for _, size := range []int{3, 4, 5, 100} {
		if got := expr.Size(sized(size)); got != size || expr.Type(sized(size)) != expr.Truth {
			t.Errorf("sized(%d) has %d", size, got)
		}
	}
}

// P11.2: a name that is of no kind, at each place.
func TestCheckNameOfNoKind(t *testing.T) {
	for _, name := range []string{"D", "a", "AA", "k", "Aé", "É", strings.Repeat("A", 24)} {
		for _, i := range items(one(name, "d"), times(name, "d", 1, 2), not(name, "d"), one(name, "d", ref("d", "k")), one(name, "d", ref("u", "k"))) {
			for _, more := range around(items(one("A", "a"), i, one("B", "b"))) {
				checkQuery(t, kinds(), pattern.Query{Items: more}, api.ErrName)
			}
			if i.Kind != pattern.Not {
				for _, more := range slices.Concat(around(items(i)), around(items(i, one("A", "a"))), around(items(one("A", "a"), i))) {
					checkQuery(t, kinds(), pattern.Query{Items: more}, api.ErrName)
				}
			}
		}
	}
	s := mostKinds()
	for at, k := range s {
		l := items(one("A", "a"), times(k.Name, "v", 1, 2), not(k.Name, "w"), one("P", "p"))
		checkQuery(t, s, pattern.Query{Items: l}, api.OK)
		checkQuery(t, slices.Delete(slices.Clone(s), at, at+1), pattern.Query{Items: l}, api.ErrName)
	}
}

// P11.2: By is a field of each kind that is named, of a Not's too.
func TestCheckBy(t *testing.T) {
	for text, want := range map[string]api.Errno{
		"A a WITHIN 1 BY x": api.OK, "B b WITHIN 1 BY x": api.ErrName, "C c WITHIN 1 BY x": api.OK, "A a{1,2} WITHIN 1 BY y": api.ErrName, "A a ; B b WITHIN 1 BY x": api.ErrName,
		"B b ; A a WITHIN 1 BY x": api.ErrName, "A a ; !B b ; C c WITHIN 1 BY x": api.ErrName, "A a ; !C b ; C c WITHIN 1 BY x": api.OK, "(A a | B b) WITHIN 1 BY x": api.ErrName,
		"(A a | C b) WITHIN 1 BY x": api.OK, "(C c ; (A a | C b ; B b) | A a) WITHIN 1 BY y": api.ErrName, "A a WITHIN 1 BY K": api.ErrName, "A a WITHIN 1 BY A": api.ErrName,
		"A a WITHIN 1 BY a": api.ErrName, "A a ; !B b ; (C c | A a) WITHIN 1 BY k": api.OK,
	} {
		checkText(t, text, want)
	}
}

// P11.2: a Pred must tell a truth, at each place.
func TestCheckType(t *testing.T) {
	for _, text := range []string{"1", "a.x", "-a.x", "1 + 2", "!1", "!(1 + a.x)", "1 < 2 < 3", "(1 < 2) + 1", "1 && 2", "1 < 2 && 3", "3 || 1 < 2", "(1 < 2) == (1 < 2)", "-(1 < 2)", "a.x == (1 < 2)", "1 < 2 || 1 < 2 && !a.x", "u.k", "a.z"} {
		pred := parsedExpr(t, text)
		for _, i := range items(one("A", "a", pred), times("A", "a", 1, 2, pred)) {
			for _, l := range [][]pattern.Item{{i}, {i, one("B", "b")}, {one("B", "b"), i}} {
				for _, more := range around(l) {
					checkQuery(t, kinds(), pattern.Query{Items: more}, api.ErrType)
				}
			}
		}
		for _, more := range around(items(one("A", "a"), not("A", "a", pred), one("A", "a"))) {
			checkQuery(t, kinds(), pattern.Query{Items: more}, api.ErrType)
		}
	}
}

// P11.2: what a Ref may name.
func TestCheckRefs(t *testing.T) {
	for text, want := range map[string]api.Errno{
		// Its own Var, of each kind of item: a field of its own kind.
		"A a[a.x < 1]": api.OK, "A a[a.y < 1]": api.ErrName, "A a{1,2}[a.k < 1]": api.OK, "A a{1,2}[a.y < 1]": api.ErrName, "A a ; !B b[b.y < 1] ; A c": api.OK, "A a ; !B b[b.x < 1] ; A c": api.ErrName, "A a[a.a < 1]": api.ErrName, "A a[a.A < 1]": api.ErrName, "A a[A.x < 1]": api.ErrName, "A a[a.X < 1]": api.ErrName,
		// Its own Var, though it was bound ahead to another kind: its own kind's still, and no other's.
		"B a ; A a[a.x < 1]": api.OK, "B a ; A a[a.y < 1]": api.ErrName, "A a ; !B a[a.y < 1] ; A c": api.OK, "A a ; !B a[a.x < 1] ; A c": api.ErrName, "A a ; B a ; C a[a.x < a.y]": api.OK, "C a ; B a ; A a[a.y < 1]": api.ErrName,
		// One that was bound ahead, or behind, or not at all.
		"A a ; B b[a.x < 1]": api.OK, "B b[a.x < 1] ; A a": api.ErrName, "A a ; B b[c.x < 1]": api.ErrName, "A a ; B b[a.y < 1]": api.ErrName, "A a{1,2} ; B b[a.x < 1]": api.OK, "A a ; B b ; C c[a.x < b.y]": api.OK, "A a ; B b ; C c[a.x < b.x]": api.ErrName, "A a ; !B b[a.x < 1] ; C c": api.OK, "A a ; !B b[c.x < 1] ; C c": api.ErrName, "A a ; B b[a.b < 1]": api.ErrName,
		// A Not binds nothing.
		"A a ; !B b ; C c[b.y < 1]": api.ErrName, "A a ; !B b ; !C c[b.y < 1] ; A d": api.ErrName, "B b ; !A b ; C c[b.y < 1]": api.OK, "B b ; !A b ; C c[b.x < 1]": api.ErrName, "A a ; !B b ; B b ; C c[b.y < 1]": api.OK, "A a ; !A b ; B b ; C c[b.x < 1]": api.ErrName,
		// One that was bound to several kinds: a field of each of them.
		"A a ; B a ; C c[a.k < 1]": api.OK, "A a ; B a ; C c[a.x < 1]": api.ErrName, "A a ; B a ; C c[a.y < 1]": api.ErrName, "B a ; A a ; C c[a.x < 1]": api.ErrName, "A a ; C a ; B b[a.x < 1]": api.OK, "A a ; C a ; B b[a.y < 1]": api.ErrName, "A a ; A a ; B b[a.x < 1]": api.OK, "A a{1,2} ; B b ; C a ; B c[a.x < b.y]": api.OK, "A a ; B b[a.x < 1] ; B a ; B c": api.OK, "C a ; C a ; B a ; B b[a.x < 1]": api.ErrName,
		// In Alts: what stands ahead in the text, in another Kid too.
		"(A a | B b) ; C c[a.x == b.y]": api.OK, "(A a | B b[a.x < 1])": api.OK, "(A a[b.y < 1] | B b)": api.ErrName, "(A a | B a) ; C c[a.k < 1]": api.OK, "(A a | B a) ; C c[a.x < 1]": api.ErrName, "(A a | C a) ; C c[a.x < 1]": api.OK, "((A a | B b) ; C c[a.x < b.y] | A d[c.x < a.x])": api.OK, "((A a | B b[d.x < 1]) | A d)": api.ErrName, "(A a ; !B b ; C c | A d[b.y < 1])": api.ErrName, "A a ; (B b | C c) ; A d[b.y < c.x && a.x < 1]": api.OK, "A a ; (B b | C c) ; A d[b.y < c.x && e.x < 1] ; A e": api.ErrName,
		// At each place of a Pred.
		"A a[1 < 2 && 1 < a.y]": api.ErrName, "A a[a.y < 2 && 1 < a.x]": api.ErrName, "A a[!(-a.y < 2)]": api.ErrName, "A a[!(-a.x < 2)]": api.OK, "A a[1 < 2 || 1 < 2 || 1 * (2 + a.y) % 3 == 1]": api.ErrName, "A a[1 < 2 || 1 < 2 || 1 * (2 + a.x) % 3 == a.k]": api.OK, "A a[a.x < a.x + a.u]": api.ErrName, "A a[a.x + u.x < a.x]": api.ErrName,
	} {
		checkText(t, text+" WITHIN 5", want)
	}
}

// P11.2: with as many kinds as there may be each is told from each other one.
func TestCheckRefsOfMostKinds(t *testing.T) {
	s := mostKinds()
	less := func(v, field string) expr.Expr { return binary("<", ref(v, field), ref(v, "all")) }
	for _, k := range s {
		for _, other := range s {
			want := api.ErrName
			if k.Name == other.Name {
				want = api.OK
			}
			field := strings.ToLower(other.Name)
			for _, l := range [][]pattern.Item{
				{one(k.Name, "v", less("v", field))}, {one(other.Name, "v"), one(k.Name, "v", less("v", field))}, {one(k.Name, "v"), one(other.Name, "w", less("v", field))},
				{one(k.Name, "v"), one(other.Name, "v"), one(k.Name, "w", less("v", field))}, {one(other.Name, "v"), times(k.Name, "v", 1, 2), one(k.Name, "w", less("v", field))},
			} {
				checkQuery(t, s, pattern.Query{Items: l, By: "all"}, want)
			}
			checkQuery(t, s, pattern.Query{Items: items(one(k.Name, "v"), one(other.Name, "v"), one("A", "w", less("v", "all")))}, api.OK)
		}
	}
	// A Var that is bound to all of them.
	var l []pattern.Item
	for _, k := range s[4:] {
		l = append(l, one(k.Name, "v"))
	}
	l[11].Pred = []expr.Expr{less("v", "p")}
	checkQuery(t, s, pattern.Query{Items: l}, api.OK)
	l[11].Pred = []expr.Expr{less("v", "o")}
	checkQuery(t, s, pattern.Query{Items: l}, api.ErrName)
	l[11].Var, l[11].Pred = "w", []expr.Expr{less("v", "all")}
	checkQuery(t, s, pattern.Query{Items: l}, api.OK)
	l[11].Pred = []expr.Expr{less("v", "e")}
	checkQuery(t, s, pattern.Query{Items: l}, api.ErrName)
}

// P11.2, P2: of several things that are wrong the one that stands first in the chapter, and then the one of the item ahead.
func TestCheckOrder(t *testing.T) {
	for text, want := range map[string]api.Errno{
		// A Not at an end, ahead of all limits and names.
		"!D a[1] WITHIN 1 BY z": api.ErrArg, "A a{1,4} ; A b{1,4} ; A c{1,3} ; !D d WITHIN 1": api.ErrArg, "A a{4,4} ; A b{4,4} ; A c{4,4} ; (D d[2] | !A a) WITHIN 1": api.ErrArg, "A a[1] ; !A b WITHIN 1": api.ErrArg,
		// A limit ahead of names and types, wherever they stand.
		"D a{1,4} ; A b{1,4} ; A c{1,3} WITHIN 1": api.ErrLimit, "A a{1,4}[1] ; A b{1,4} ; A c{1,3} WITHIN 1": api.ErrLimit, "A a{4,4} ; A b{4,4} ; A c{4,4} ; D d WITHIN 1 BY z": api.ErrLimit, "D d[" + strings.Repeat("1 + ", 128) + "1] WITHIN 1": api.ErrLimit,
		// Of one item its Name, By, what its Pred tells, the Refs of it.
		"D d[1] WITHIN 1": api.ErrName, "D d[u.x < 1] WITHIN 1": api.ErrName, "A a[1] WITHIN 1 BY y": api.ErrName, "A a[a.y] WITHIN 1": api.ErrType, "A a[u.x + 1] WITHIN 1": api.ErrType, "A a[1] WITHIN 1 BY x": api.ErrType,
		// Of two items the one ahead, in Alts too.
		"A a[1] ; D d WITHIN 1": api.ErrType, "D d ; A a[1] WITHIN 1": api.ErrName, "A a[1] ; B b WITHIN 1 BY x": api.ErrType, "B b ; A a[1] WITHIN 1 BY x": api.ErrName, "A a[a.y < 1] ; A b[1] WITHIN 1": api.ErrName, "A b[1] ; A a[a.y < 1] WITHIN 1": api.ErrType,
		"A a ; !D d ; A b[1] WITHIN 1": api.ErrName, "A a ; !B b[1] ; D d WITHIN 1": api.ErrType, "(A a[1] | D d) WITHIN 1": api.ErrType, "(D d | A a[1]) WITHIN 1": api.ErrName, "(A a | A b[1]) ; D d WITHIN 1": api.ErrType, "(A a | D d) ; A b[1] WITHIN 1": api.ErrName, "A a[1] ; (A b | D d) WITHIN 1": api.ErrType, "A a[u.x < 1] ; (A b[1] | A c) WITHIN 1": api.ErrName,
		"((A a | A b[1]) ; A c | D d) WITHIN 1": api.ErrType, "((A a | D b) ; A c[1] | A d[1]) WITHIN 1": api.ErrName,
	} {
		checkText(t, text, want)
	}
	all := items(one("D", "d", sized(301)), not("A", "a"))
	checkQuery(t, nil, pattern.Query{Items: all, Within: -1}, api.ErrLimit)
	checkQuery(t, []schema.Kind{{}}, pattern.Query{Items: all, Within: -1}, api.ErrName)
	checkQuery(t, kinds(), pattern.Query{Items: all, Within: -1}, api.ErrArg)
	checkQuery(t, kinds(), pattern.Query{Items: all}, api.ErrArg)
	checkQuery(t, kinds(), pattern.Query{Items: all[:1], Within: -1}, api.ErrArg)
	checkQuery(t, kinds(), pattern.Query{Items: all[:1]}, api.ErrLimit)
	checkQuery(t, kinds(), pattern.Query{Items: slices.Repeat(items(one("D", "d")), 13)}, api.ErrLimit)
	checkQuery(t, kinds(), pattern.Query{Items: slices.Repeat(items(one("D", "d")), 12)}, api.ErrName)
}

// choices: items of every kind with each of these names, Vars and Preds.
func choices(names, vars []string, preds []expr.Expr) (told []pattern.Item) {
	for _, name := range names {
		for _, v := range vars {
			told = append(told, one(name, v), not(name, v), times(name, v, 1, 2))
			for _, pred := range preds {
				told = append(told, one(name, v, pred), not(name, v, pred))
			}
		}
	}
	return told
}

func texts(t *testing.T, l ...string) (told []expr.Expr) {
	t.Helper()
	for _, text := range l {
		told = append(told, parsedExpr(t, text))
	}
	return told
}

// tally counts what was told, so that a test can see that each was.
type tally [12]int

func (n *tally) check(t *testing.T, s []schema.Kind, q pattern.Query) {
	t.Helper()
	want := expectedCheck(s, q)
	n[want]++
	checkQuery(t, s, q, want)
	if t.Failed() {
		t.FailNow()
	}
}

func (n *tally) had(t *testing.T, least int, told ...api.Errno) {
	t.Helper()
	for _, e := range told {
		if n[e] < least {
			t.Errorf("%d was told %d times", e, n[e])
		}
	}
}

// P11.2, P11.3: all pairs, and all threes of fewer, straight and as the Kids of an Alt.
func TestCheckOfAllShort(t *testing.T) {
	var n tally
	many := choices([]string{"A", "B", "D"}, []string{"a", "b"}, texts(t, "1 < 2", "1", "a.x < 1", "b.y < a.k", "a.k"))
	for _, first := range many {
		for _, second := range many {
			for _, by := range []string{"", "k", "x"} {
				n.check(t, kinds(), pattern.Query{Items: items(first, second), By: by})
				n.check(t, kinds(), pattern.Query{Items: items(alt(items(first), items(second))), By: by})
			}
			n.check(t, kinds(), pattern.Query{Items: items(first, second, one("C", "c", binary("<", ref("a", "x"), ref("b", "y"))))})
			n.check(t, kinds(), pattern.Query{Items: items(first, alt(items(second), items(one("C", "c", binary("<", ref("a", "k"), ref("c", "y"))))))})
		}
	}
	few := choices([]string{"A", "B"}, []string{"a", "b"}, texts(t, "a.x < 1", "b.y < a.k"))
	for _, first := range few {
		for _, second := range few {
			for _, third := range few {
				n.check(t, kinds(), pattern.Query{Items: items(first, second, third)})
				n.check(t, kinds(), pattern.Query{Items: items(alt(items(first), items(second)), third)})
				n.check(t, kinds(), pattern.Query{Items: items(first, alt(items(second), items(third)))})
			}
		}
	}
	n.had(t, 500, api.OK, api.ErrArg, api.ErrName, api.ErrType)
}

// P11.2, P11.3: many longer ones, most of which come past the first errors.
func TestCheckOfManyLonger(t *testing.T) {
	s := seq(13)
	var n tally
	good := texts(t, "1 < 2", "a.k < 1", "a.k < b.k && c.k == 1", "!(b.k < a.k)", "a.x == a.k")
	bad := append(slices.Clone(good), texts(t, "1", "a.x < b.y", "b.y < a.z", "u.k < 1", "a.k + 1")...)
	bad = append(bad, sized(90))
	for round := range 60000 {
		names, preds := []string{"A", "B", "C"}, good
		if round%3 == 0 {
			preds = bad
		}
		if round%7 == 0 {
			names = append(names, "D")
		}
		l := slices.DeleteFunc(choices(names, []string{"a", "b", "c"}, preds), func(i pattern.Item) bool { return i.Kind == pattern.Not && round%4 > 0 })
		l = append(l, times("C", "c", 2, 4, pick(&s, preds)))
		q := pattern.Query{Items: s.rightItems(5, 2, l), By: pick(&s, []string{"", "k", "k", "x"})}
		// The Vars that Preds name are bound, most of the time.
		if round%2 == 0 {
			q.Items = append(items(one(pick(&s, names), "a"), one(pick(&s, names), "b"), one(pick(&s, names), "c")), q.Items...)
		}
		n.check(t, kinds(), q)
	}
	n.had(t, 1000, api.OK, api.ErrArg, api.ErrLimit, api.ErrName, api.ErrType)
}

// P3, P4: nothing that is handed in is written into, and the same is told again, of what was handed in with room behind too.
func TestNothingIsWritten(t *testing.T) {
	s := seq(14)
	preds := texts(t, "1", "a.k < 1", "a.x < b.y", "!(a.k < -b.k)")
	l := slices.DeleteFunc(choices([]string{"A", "B", "C", "D"}, []string{"a", "b"}, preds), func(i pattern.Item) bool { return i.Kind == pattern.Not })
	for range 2000 {
		q := pattern.Query{Items: spaced(s.rightItems(4, 2, l)), Within: 5, By: pick(&s, []string{"", "k"})}
		known := kinds()
		was := pattern.Query{Items: deepCopy(q.Items), Within: q.Within, By: q.By}
		told := check.Check(known, q)
		paths, steps, code := check.Paths(q.Items), check.Steps(q.Items), check.Code(q.Items)
		if !pattern.SameItems(q.Items[:cap(q.Items)], was.Items[:cap(q.Items)]) || !sameRoom(q.Items, was.Items) || !schema.Same(known, kinds()) {
			t.Fatalf("%+v was %+v", q, was)
		}
		if check.Check(kinds(), was) != told || check.Check(known, q) != told {
			t.Fatalf("Check(%+v) was %d", q, told)
		}
		if check.Paths(was.Items) != paths || check.Steps(was.Items) != steps || check.Code(was.Items) != code {
			t.Fatalf("the counts of %+v were %d, %d, %d", q, paths, steps, code)
		}
	}
}

// sameRoom: are all the same that stand in a list's room, and in that of all lists below?
func sameRoom(a, b []pattern.Item) bool {
	for at, i := range a {
		if !slices.EqualFunc(i.Pred[:cap(i.Pred)], b[at].Pred[:cap(i.Pred)], expr.Same) || !slices.EqualFunc(i.Kids[:cap(i.Kids)], b[at].Kids[:cap(i.Kids)], pattern.SameItems) {
			return false
		}
		for k, kid := range i.Kids {
			if !pattern.SameItems(kid[:cap(kid)], b[at].Kids[k][:cap(kid)]) || !sameRoom(kid, b[at].Kids[k]) {
				return false
			}
		}
	}
	return len(a) == len(b)
}

// deep: an Alt in an Alt, so many of them, about l.
func deep(n int, l []pattern.Item, first bool) []pattern.Item {
	for range n {
		if first {
			l = items(alt(l, items(one("A", "a"))))
		} else {
			l = items(alt(items(one("A", "a")), l))
		}
	}
	return l
}

// P1: trees that are deep, and lists that are long, right or not.
func TestDeepAndLong(t *testing.T) {
	for _, first := range []bool{true, false} {
		for _, l := range [][]pattern.Item{nil, {one("A", "a")}, {not("A", "a")}, {one("D", "d", sized(5))}} {
			tree := deep(100000, l, first)
			want := api.ErrLimit
			if len(l) == 0 || l[0].Kind == pattern.Not {
				want = api.ErrArg
			}
			if got := check.Check(kinds(), pattern.Query{Items: tree}); got != want {
				t.Errorf("Check of a deep tree about %+v = %d; want %d", l, got, want)
			}
			steps := 1
			if paths := check.Paths(tree); paths != 100001 {
				t.Errorf("Paths of a deep tree = %d", paths)
			}
			if got := check.Steps(tree); got != steps {
				t.Errorf("Steps of a deep tree = %d", got)
			}
			if got := check.Code(tree); got != expectedCode(l) {
				t.Errorf("Code of a deep tree = %d", got)
			}
		}
	}
	pred := sized(200001)
	if got := check.Code(items(one("A", "a", pred))); got != 200001 {
		t.Errorf("Code of a deep Pred = %d", got)
	}
	if got := check.Check(kinds(), pattern.Query{Items: items(one("A", "a", pred))}); got != api.ErrLimit {
		t.Errorf("Check of a deep Pred = %d", got)
	}
	long := slices.Repeat(items(times("A", "a", 1, 2, sized(3)), not("B", "b"), one("A", "a")), 300000)
	if check.Paths(long) != 1<<20 || check.Steps(long) != 900000 || check.Code(long) != 900000 || check.Steps(append(long, long...)) != 1<<20 {
		t.Errorf("counts of a long list: %d, %d, %d", check.Paths(long), check.Steps(long), check.Code(long))
	}
	if got := check.Check(kinds(), pattern.Query{Items: long}); got != api.ErrLimit {
		t.Errorf("Check of a long list = %d", got)
	}
	wide := items(alt(slices.Repeat([][]pattern.Item{{one("A", "a")}}, 300000)...))
	if check.Paths(wide) != 300000 || check.Steps(wide) != 1 || check.Check(kinds(), pattern.Query{Items: wide}) != api.ErrLimit {
		t.Errorf("counts of a wide Alt: %d, %d", check.Paths(wide), check.Steps(wide))
	}
}
