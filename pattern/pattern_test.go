package pattern_test

import (
	"math"
	"slices"
	"strconv"
	"strings"
	"testing"

	"jettison/expr"
	"jettison/pattern"
)

func num(n int64) expr.Expr {
	return expr.Expr{Kind: expr.Num, N: n}
}

func ref(name, field string) expr.Expr {
	return expr.Expr{Kind: expr.Ref, Var: name, Field: field}
}

func unary(op string, kid expr.Expr) expr.Expr {
	return expr.Expr{Kind: expr.Unary, Op: op, Kids: []expr.Expr{kid}}
}

func binary(op string, first, second expr.Expr) expr.Expr {
	return expr.Expr{Kind: expr.Binary, Op: op, Kids: []expr.Expr{first, second}}
}

func one(name, v string, pred ...expr.Expr) pattern.Item {
	return pattern.Item{Kind: pattern.One, Name: name, Var: v, Pred: pred}
}

func times(name, v string, low, high int, pred ...expr.Expr) pattern.Item {
	return pattern.Item{Kind: pattern.Times, Name: name, Var: v, Low: low, High: high, Pred: pred}
}

func not(name, v string, pred ...expr.Expr) pattern.Item {
	return pattern.Item{Kind: pattern.Not, Name: name, Var: v, Pred: pred}
}

func alt(kids ...[]pattern.Item) pattern.Item {
	return pattern.Item{Kind: pattern.Alt, Kids: kids}
}

func items(l ...pattern.Item) []pattern.Item {
	return l
}

// names: texts that are names, and texts that are none.
func names() []string {
	return []string{"A", "b", "Z", "_", "a9", "é", "日本", "\ufffd", "within", "By", strings.Repeat("z", 24), strings.Repeat("é", 12)}
}

func noNames() []string {
	return []string{"", "9", "9a", "a b", "a.x", "a-b", " a", "a ", "a;", "a[", "!a", "(a", "\x00", "a\n", "WITHIN", "BY", "\xff", "a\xff",
		"\xed\xa0\x80", strings.Repeat("z", 25), strings.Repeat("é", 13)}
}

// preds: right ones of each kind, that tell a truth, a number, or nothing.
func preds() []expr.Expr {
	return []expr.Expr{num(0), num(math.MaxInt64), ref("a", "x"), unary("-", num(3)), unary("!", num(3)),
		binary("<", ref("a", "x"), binary("*", num(2), binary("+", num(1), ref("b", "é")))),
		binary("||", binary("==", num(1), num(2)), unary("!", binary(">=", ref("c", "y"), num(5))))}
}

// wrongPreds: wrong as a whole, and in what is below.
func wrongPreds() []expr.Expr {
	return []expr.Expr{num(-1), {Kind: 9}, {Kind: -1}, ref("", "x"), ref("a", "BY"), {Op: "+"}, unary("+", num(1)), binary("!", num(1), num(2)),
		unary("-", num(-1)), binary("<", ref("a", "x"), ref("9", "x")), {Kind: expr.Binary, Op: "+", Kids: []expr.Expr{num(1)}}}
}

// wrongItems: wrong for one thing each.
func wrongItems() []pattern.Item {
	a := items(one("A", "a"))
	return []pattern.Item{
		{}, one("A", ""), one("", "a"), one("WITHIN", "a"), one("A", "9"), one("A", "a", num(-1)), one("A", "a", num(1), num(1)),
		{Kind: -1, Name: "A", Var: "a"}, {Kind: 4, Name: "A", Var: "a"}, {Name: "A", Var: "a", Low: 1}, {Name: "A", Var: "a", High: 1},
		{Name: "A", Var: "a", Low: 1, High: 1}, {Name: "A", Var: "a", Kids: [][]pattern.Item{a}}, {Name: "A", Var: "a", Kids: [][]pattern.Item{nil}},
		{Name: "A", Var: "a", Kids: [][]pattern.Item{a, a}},
		times("A", "a", 0, 0), times("A", "a", 0, 1), times("A", "a", 2, 1), times("A", "a", 1, 5), times("A", "a", 5, 5), times("A", "a", -1, 1),
		times("", "a", 1, 1), times("A", "", 1, 1), times("A", "a", 1, 1, num(-1)), times("A", "a", 1, 1, num(1), num(2)),
		{Kind: pattern.Times, Name: "A", Var: "a", Low: 1, High: 1, Kids: [][]pattern.Item{a, a}},
		not("", "a"), not("A", ""), not("A", "a", num(-1)), not("A", "a", num(1), num(2)), {Kind: pattern.Not, Name: "A", Var: "a", Low: 1, High: 1},
		{Kind: pattern.Not, Name: "A", Var: "a", High: 1}, {Kind: pattern.Not, Name: "A", Var: "a", Kids: [][]pattern.Item{a, a}},
		alt(), alt(a), alt(a, nil), alt(nil, a), alt(nil, nil), alt(a, a, items()), alt(a, items(one("A", ""))), alt(items(one("", "a")), a),
		{Kind: pattern.Alt, Name: "A", Kids: [][]pattern.Item{a, a}}, {Kind: pattern.Alt, Var: "a", Kids: [][]pattern.Item{a, a}},
		{Kind: pattern.Alt, Pred: preds()[:1], Kids: [][]pattern.Item{a, a}}, {Kind: pattern.Alt, Low: 1, High: 1, Kids: [][]pattern.Item{a, a}},
		{Kind: pattern.Alt, Low: 1, Kids: [][]pattern.Item{a, a}}, {Kind: pattern.Alt, High: 1, Kids: [][]pattern.Item{a, a}},
		{Kind: pattern.Alt, Low: -1, Kids: [][]pattern.Item{a, a}},
	}
}

// rightItems: right ones of each kind.
func rightItems() []pattern.Item {
	a := items(one("A", "a"))
	return []pattern.Item{
		one("A", "a"), one("é", "\ufffd"), one("A", "A", ref("a", "x")), times("A", "a", 1, 1), times("A", "a", 4, 4), times("B", "b", 1, 4, num(1)),
		not("A", "a"), not("C", "c", binary("<", num(1), num(2))), alt(a, a), alt(a, a, a), alt(items(alt(a, a), not("A", "a")), a),
	}
}

// places: lists in which i stands at each place that an Item may have, alone and deeper.
func places(i pattern.Item) [][]pattern.Item {
	a, b := one("A", "a"), not("B", "b", num(2))
	return [][]pattern.Item{items(i), items(i, a), items(a, i), items(a, i, b), items(i, i),
		items(alt(items(i), items(a))), items(alt(items(a), items(i))), items(alt(items(a), items(i), items(b))), items(a, alt(items(b), items(a, i, b))),
		items(alt(items(a), items(b)), alt(items(a), items(b), items(i))), items(a, alt(items(alt(items(b), items(i))), items(a)), b)}
}

// rightLists: all right lists of just n Items with all below, with these Items that have no Kids.
func rightLists(n int, leaves []pattern.Item) [][]pattern.Item {
	lists := [][][]pattern.Item{{nil}}
	// choices: the Kids, so many of them, of so many Items in all.
	choices := func(kids, count int) [][][]pattern.Item {
		told := [][][]pattern.Item{nil}
		counts := []int{0}
		for range kids {
			var longer [][][]pattern.Item
			var longerCounts []int
			for at, l := range told {
				for more := 1; more <= count-counts[at]; more++ {
					for _, kid := range lists[more] {
						longer = append(longer, append(slices.Clip(l), kid))
						longerCounts = append(longerCounts, counts[at]+more)
					}
				}
			}
			told, counts = longer, longerCounts
		}
		var just [][][]pattern.Item
		for at, l := range told {
			if counts[at] == count {
				just = append(just, l)
			}
		}
		return just
	}
	singles := [][]pattern.Item{nil}
	for size := 1; size <= n; size++ {
		var here []pattern.Item
		if size == 1 {
			here = leaves
		}
		for kids := 2; kids < size; kids++ {
			for _, l := range choices(kids, size-1) {
				here = append(here, alt(l...))
			}
		}
		singles = append(singles, here)
		var l [][]pattern.Item
		for first := 1; first <= size; first++ {
			for _, i := range singles[first] {
				for _, rest := range lists[size-first] {
					l = append(l, append(items(i), rest...))
				}
			}
		}
		lists = append(lists, l)
	}
	return lists[n]
}

func leaves() []pattern.Item {
	return []pattern.Item{one("A", "a"), one("A", "b"), times("A", "a", 1, 1), times("A", "a", 1, 2), not("A", "a"), one("A", "a", ref("a", "x"))}
}

// mixes: Items with something, or nothing, or something wrong, in each field.
func mixes() []pattern.Item {
	var l []pattern.Item
	a, wrong := items(one("A", "a")), items(one("A", "a"), one("A", ""))
	allKids := [][][]pattern.Item{nil, {a}, {a, a}, {a, a, a}, {a, nil}, {wrong, a}, {a, a, wrong}}
	allPreds := [][]expr.Expr{nil, {num(1)}, {num(-1)}, {num(1), num(1)}}
	for kind := -1; kind <= 4; kind++ {
		for _, name := range []string{"", "A", "BY"} {
			for _, v := range []string{"", "a", "9"} {
				for _, pred := range allPreds {
					for low := -1; low <= 5; low++ {
						for high := -1; high <= 5; high++ {
							for _, kids := range allKids {
								l = append(l, pattern.Item{Kind: kind, Name: name, Var: v, Pred: pred, Low: low, High: high, Kids: kids})
							}
						}
					}
				}
			}
		}
	}
	return l
}

// expectedRight: by the chapter's words alone, but that of names and Preds it asks those above.
func expectedRight(l []pattern.Item) bool {
	wrong := len(l) == 0
	for _, i := range l {
		named := !slices.Contains(noNames(), i.Name) && !slices.Contains(noNames(), i.Var)
		unnamed := i.Name == "" && i.Var == ""
		predicated := len(i.Pred) == 0 || len(i.Pred) == 1 && expr.Right(i.Pred[0])
		uncounted := i.Low == 0 && i.High == 0
		counted := i.Low >= 1 && i.High >= i.Low && i.High < 5
		for _, kid := range i.Kids {
			wrong = wrong || !expectedRight(kid)
		}
		switch i.Kind {
		case 0, 2:
			wrong = wrong || !named || !predicated || !uncounted || len(i.Kids) > 0
		case 1:
			wrong = wrong || !named || !predicated || !counted || len(i.Kids) > 0
		case 3:
			wrong = wrong || !unnamed || len(i.Pred) > 0 || !uncounted || len(i.Kids) < 2
		default:
			wrong = true
		}
	}
	return !wrong
}

func expectedPut(l []pattern.Item) string {
	var told []string
	for _, i := range l {
		s := i.Name + " " + i.Var
		switch i.Kind {
		case 1:
			s += "{" + strconv.Itoa(i.Low) + "," + strconv.Itoa(i.High) + "}"
		case 2:
			s = "!" + s
		case 3:
			var kids []string
			for _, kid := range i.Kids {
				kids = append(kids, expectedPut(kid))
			}
			s = "(" + strings.Join(kids, " | ") + ")"
		}
		if len(i.Pred) == 1 {
			s += "[" + expr.Put(i.Pred[0]) + "]"
		}
		told = append(told, s)
	}
	return strings.Join(told, " ; ")
}

func expectedCount(l []pattern.Item) int {
	n := len(l)
	for _, i := range l {
		n += expectedCount(slices.Concat(i.Kids...))
	}
	return n
}

// expectedDeep: how often there is something below, all Items that stand as deep taken at once.
func expectedDeep(l []pattern.Item) int {
	n := 0
	for ; len(l) > 0; n++ {
		var below []pattern.Item
		for _, i := range l {
			below = append(below, slices.Concat(i.Kids...)...)
		}
		l = below
	}
	return n
}

// reader reads what is put, as chapter 10 says of items, with Preds that are put as one of these.
type reader struct {
	rest  string
	preds []expr.Expr
}

func (r *reader) takes(s string) bool {
	rest, ok := strings.CutPrefix(r.rest, s)
	if ok {
		r.rest = rest
	}
	return ok
}

// until takes what stands ahead of the first of these bytes.
func (r *reader) until(ends string) string {
	end := strings.IndexAny(r.rest, ends)
	if end < 0 {
		end = len(r.rest)
	}
	told := r.rest[:end]
	r.rest = r.rest[end:]
	return told
}

func (r *reader) items() []pattern.Item {
	l := items(r.item())
	for r.takes(" ; ") {
		l = append(l, r.item())
	}
	return l
}

func (r *reader) item() pattern.Item {
	if r.takes("(") {
		i := alt(r.items())
		for r.takes(" | ") {
			i.Kids = append(i.Kids, r.items())
		}
		if !r.takes(")") {
			r.rest = "no bracket ahead of " + r.rest
		}
		return i
	}
	var i pattern.Item
	if r.takes("!") {
		i.Kind = pattern.Not
	}
	i.Name = r.until(" ")
	r.takes(" ")
	i.Var = r.until(" {[)")
	if r.takes("{") {
		i.Kind = pattern.Times
		i.Low, _ = strconv.Atoi(r.until(","))
		r.takes(",")
		i.High, _ = strconv.Atoi(r.until("}"))
		r.takes("}")
	}
	if r.takes("[") {
		text := r.until("]")
		r.takes("]")
		at := slices.IndexFunc(r.preds, func(e expr.Expr) bool { return expr.Put(e) == text })
		i.Pred = r.preds[at : at+1]
	}
	return i
}

func (r *reader) query() pattern.Query {
	q := pattern.Query{Items: r.items()}
	if !r.takes(" WITHIN ") {
		r.rest = "no WITHIN ahead of " + r.rest
	}
	q.Within, _ = strconv.ParseInt(r.until(" "), 10, 64)
	if r.takes(" BY ") {
		q.By = r.until(" ")
	}
	return q
}

// deepCopy: to see later whether something was written; spare room is copied too.
func deepCopy(l []pattern.Item) []pattern.Item {
	told := slices.Clone(l[:cap(l)])
	for at, i := range told {
		told[at].Pred = slices.Clone(i.Pred[:cap(i.Pred)])[:len(i.Pred)]
		kids := slices.Clone(i.Kids[:cap(i.Kids)])
		for k := range kids {
			kids[k] = deepCopy(kids[k])
		}
		told[at].Kids = kids[:len(i.Kids)]
	}
	return told[:len(l)]
}

// equal is SameItems by the test's own words.
func equal(a, b []pattern.Item) bool {
	if len(a) != len(b) {
		return false
	}
	for at, x := range a {
		y := b[at]
		if x.Kind != y.Kind || x.Name != y.Name || x.Var != y.Var || x.Low != y.Low || x.High != y.High {
			return false
		}
		if len(x.Pred) != len(y.Pred) || len(x.Kids) != len(y.Kids) {
			return false
		}
		for p := range x.Pred {
			if !expr.Same(x.Pred[p], y.Pred[p]) {
				return false
			}
		}
		for k := range x.Kids {
			if !equal(x.Kids[k], y.Kids[k]) {
				return false
			}
		}
	}
	return true
}

// checkRight asks of the list, and of queries of it.
func checkRight(t *testing.T, l []pattern.Item, want bool) {
	t.Helper()
	if got := pattern.RightItems(l); got != want {
		t.Errorf("RightItems(%+v) = %t; want %t", l, got, want)
	}
	checkRightQuery(t, pattern.Query{Items: l}, want)
	checkRightQuery(t, pattern.Query{Items: l, Within: 7, By: "k"}, want)
}

func checkRightQuery(t *testing.T, q pattern.Query, want bool) {
	t.Helper()
	if got := pattern.Right(q); got != want {
		t.Errorf("Right(%+v) = %t; want %t", q, got, want)
	}
}

// checkSame asks of the lists, and of queries of them.
func checkSame(t *testing.T, a, b []pattern.Item, want bool) {
	t.Helper()
	if got := pattern.SameItems(a, b); got != want {
		t.Errorf("SameItems(%+v, %+v) = %t; want %t", a, b, got, want)
	}
	if got := pattern.SameItems(b, a); got != want {
		t.Errorf("SameItems(%+v, %+v) = %t; want %t", b, a, got, want)
	}
	checkSameQuery(t, pattern.Query{Items: a, Within: 3, By: "k"}, pattern.Query{Items: b, Within: 3, By: "k"}, want)
}

func checkSameQuery(t *testing.T, a, b pattern.Query, want bool) {
	t.Helper()
	if got := pattern.Same(a, b); got != want {
		t.Errorf("Same(%+v, %+v) = %t; want %t", a, b, got, want)
	}
	if got := pattern.Same(b, a); got != want {
		t.Errorf("Same(%+v, %+v) = %t; want %t", b, a, got, want)
	}
}

// checkPut asks of the list, and of queries of it.
func checkPut(t *testing.T, l []pattern.Item, want string) {
	t.Helper()
	if got := pattern.PutItems(l); got != want {
		t.Errorf("PutItems(%+v) = %q; want %q", l, got, want)
	}
	checkPutQuery(t, pattern.Query{Items: l}, want+" WITHIN 0")
	checkPutQuery(t, pattern.Query{Items: l, Within: 1000000000, By: "k"}, want+" WITHIN 1000000000 BY k")
}

func checkPutQuery(t *testing.T, q pattern.Query, want string) {
	t.Helper()
	if got := pattern.Put(q); got != want {
		t.Errorf("Put(%+v) = %q; want %q", q, got, want)
	}
}

func checkCount(t *testing.T, l []pattern.Item, want int) {
	t.Helper()
	if got := pattern.Count(l); got != want {
		t.Errorf("Count(%+v) = %d; want %d", l, got, want)
	}
}

func checkDeep(t *testing.T, l []pattern.Item, want int) {
	t.Helper()
	if got := pattern.Deep(l); got != want {
		t.Errorf("Deep(%+v) = %d; want %d", l, got, want)
	}
}

// P9.1: the numbers of kinds.
func TestKinds(t *testing.T) {
	if pattern.One != 0 || pattern.Times != 1 || pattern.Not != 2 || pattern.Alt != 3 {
		t.Error(pattern.One, pattern.Times, pattern.Not, pattern.Alt)
	}
}

// P9.1: Name and Var are names, of each kind that has them.
func TestRightNames(t *testing.T) {
	of := func(name, v string) []pattern.Item {
		return items(one(name, v), times(name, v, 1, 2), not(name, v))
	}
	for _, a := range names() {
		for _, b := range names() {
			for _, i := range of(a, b) {
				checkRight(t, items(i), true)
			}
		}
		for _, b := range noNames() {
			for _, i := range append(of(a, b), of(b, a)...) {
				checkRight(t, items(i), false)
			}
		}
	}
	for _, i := range of("", "") {
		checkRight(t, items(i), false)
	}
}

// P9.1: at most one Pred, which is right; what it tells is not asked.
func TestRightPreds(t *testing.T) {
	of := func(l ...expr.Expr) []pattern.Item {
		return items(one("A", "a", l...), times("A", "a", 1, 4, l...), not("A", "a", l...))
	}
	for _, i := range of() {
		checkRight(t, items(i), true)
	}
	for _, e := range preds() {
		for at := range of() {
			checkRight(t, items(of(e)[at]), true)
			checkRight(t, items(of(e, e)[at]), false)
			checkRight(t, items(of(e, num(1), e)[at]), false)
		}
	}
	for _, e := range wrongPreds() {
		for at := range of() {
			checkRight(t, items(of(e)[at]), false)
			checkRight(t, items(of(e, num(1))[at]), false)
			checkRight(t, items(of(num(1), e)[at]), false)
		}
	}
	for _, i := range of(make([]expr.Expr, 1000)...) {
		checkRight(t, items(i), false)
	}
	checkRight(t, items(one("A", "a", expr.Expr{})), true)
	checkRight(t, items(pattern.Item{Name: "A", Var: "a", Pred: []expr.Expr{}, Kids: [][]pattern.Item{}}), true)
}

// P9.1: of a Times Low from 1 to High, High at most MaxRepeat; of all others they are nothing.
func TestRightLowHigh(t *testing.T) {
	numbers := []int{math.MinInt, math.MinInt + 1, math.MinInt32, -5, -4, -1, 0, 1, 2, 3, 4, 5, 6, 255, 256, 257, 1 << 32, 1<<32 + 1, math.MaxInt - 1, math.MaxInt}
	right := 0
	for _, low := range numbers {
		for _, high := range numbers {
			want := 1 <= low && low <= high && high <= 4
			if want {
				right++
			}
			checkRight(t, items(times("A", "a", low, high)), want)
			checkRight(t, items(times("A", "a", low, high, num(1))), want)
			for _, i := range []pattern.Item{one("A", "a"), not("A", "a"), alt(items(one("A", "a")), items(one("B", "b")))} {
				i.Low, i.High = low, high
				checkRight(t, items(i), low == 0 && high == 0)
			}
		}
	}
	if right != 10 {
		t.Errorf("%d were right", right)
	}
}

// P9.1: an Alt of two Kids or more, each of one Item or more.
func TestRightAlt(t *testing.T) {
	a := items(one("A", "a"), not("B", "b"))
	for n := range 20 {
		checkRight(t, items(alt(slices.Repeat([][]pattern.Item{a}, n)...)), n >= 2)
		for at := range n {
			for _, nothing := range [][]pattern.Item{nil, {}} {
				kids := slices.Repeat([][]pattern.Item{a}, n)
				kids[at] = nothing
				checkRight(t, items(alt(kids...)), false)
			}
		}
	}
	for n := range 4 {
		checkRight(t, items(alt(make([][]pattern.Item, n)...)), false)
		for _, kind := range []int{pattern.One, pattern.Times, pattern.Not} {
			i := times("A", "a", 1, 1)
			if kind != pattern.Times {
				i = one("A", "a")
			}
			i.Kind, i.Kids = kind, slices.Repeat([][]pattern.Item{a}, n)
			checkRight(t, items(i), n == 0)
		}
	}
}

// P9.1: Kinds that there are not.
func TestRightOfOtherKinds(t *testing.T) {
	a := items(one("A", "a"))
	for _, kind := range []int{-1, -2, 4, 5, 6, 7, 255, 256, 257, 258, 259, 1 << 32, 1<<32 + 3, math.MaxInt, math.MinInt} {
		for _, i := range []pattern.Item{{}, one("A", "a"), times("A", "a", 1, 2), alt(a, a)} {
			i.Kind = kind
			checkRight(t, items(i), false)
		}
	}
}

// P9.1: what is not said is nothing: each field that a kind does not have, in each kind.
func TestRightOfMixes(t *testing.T) {
	right := 0
	for _, i := range mixes() {
		want := expectedRight(items(i))
		if want {
			right++
		}
		if got := pattern.RightItems(items(i)); got != want {
			t.Fatalf("RightItems(%+v) = %t; want %t", i, got, want)
		}
	}
	// A One and a Not with and without Pred, a Times so of ten Lows and Highs, an Alt of two Kids and of three.
	if right != 2+2+20+2 {
		t.Errorf("%d of the mixes were right", right)
	}
}

// P9.1: what is wrong makes wrong all that it stands in, at whichever place; what is right does not.
func TestRightOfPlaces(t *testing.T) {
	check := func(i pattern.Item, want bool) {
		t.Helper()
		for _, l := range places(i) {
			checkRight(t, l, want)
			for _, more := range places(alt(items(one("A", "a")), l)) {
				checkRight(t, more, want)
			}
		}
		if t.Failed() {
			t.FailNow()
		}
	}
	for _, i := range wrongItems() {
		check(i, false)
	}
	for _, i := range rightItems() {
		check(i, true)
	}
}

// P9.1: there are some.
func TestRightOfNone(t *testing.T) {
	checkRight(t, nil, false)
	checkRight(t, items(), false)
	checkRight(t, make([]pattern.Item, 0, 5), false)
	checkRightQuery(t, pattern.Query{}, false)
	checkRightQuery(t, pattern.Query{Within: 5, By: "k"}, false)
}

// P9.1: Within from 0 to MaxWindow.
func TestRightWithin(t *testing.T) {
	l := items(one("A", "a"))
	for _, n := range []int64{0, 1, 2, 1 << 29, 999999999, 1000000000} {
		checkRightQuery(t, pattern.Query{Items: l, Within: n}, true)
		checkRightQuery(t, pattern.Query{Items: l, Within: n, By: "k"}, true)
		checkRightQuery(t, pattern.Query{Within: n}, false)
	}
	for _, n := range []int64{-1, -2, -1000000000, math.MinInt64, math.MinInt64 + 1, 1000000001, 1000000002, 1 << 31, 1 << 32, 1<<32 + 1, math.MaxInt64 - 1, math.MaxInt64} {
		checkRightQuery(t, pattern.Query{Items: l, Within: n}, false)
		checkRightQuery(t, pattern.Query{Items: l, Within: n, By: "k"}, false)
	}
}

// P9.1: By is nothing, or a name.
func TestRightBy(t *testing.T) {
	l := items(one("A", "a"))
	for _, by := range append(names(), "") {
		checkRightQuery(t, pattern.Query{Items: l, By: by}, true)
		checkRightQuery(t, pattern.Query{Items: l, Within: -1, By: by}, false)
	}
	for _, by := range noNames() {
		checkRightQuery(t, pattern.Query{Items: l, By: by}, by == "")
	}
}

// P9.1: what layers behind bound is not bounded here: how many Items, how deep, where a Not stands, what is bound twice.
func TestRightAsksNoMore(t *testing.T) {
	a := one("A", "a")
	checkRight(t, items(not("A", "a")), true)
	checkRight(t, items(not("A", "a"), not("A", "a")), true)
	checkRight(t, items(a, not("B", "b"), a), true)
	checkRight(t, items(alt(items(not("A", "a")), items(a, not("A", "a")))), true)
	checkRight(t, items(one("A", "a", ref("unbound", "none"))), true)
	for _, n := range []int{11, 12, 13, 1000} {
		checkRight(t, slices.Repeat(items(a), n), true)
		checkRight(t, slices.Repeat(items(times("A", "a", 4, 4)), n), true)
		checkRight(t, items(alt(slices.Repeat([][]pattern.Item{{a}}, n)...)), true)
	}
	for _, n := range []int{15, 16, 17, 40} {
		checkRight(t, deep(n, items(a), inFirst), true)
		checkRight(t, deep(n, items(a), inLast), true)
	}
}

// P9.1: each field is asked, of what is right and of what is not, wherever it stands.
func TestSameItems(t *testing.T) {
	a := items(one("A", "a"))
	i := pattern.Item{Kind: 1, Name: "A", Var: "a", Pred: []expr.Expr{num(1), binary("+", num(2), num(3))}, Low: 2, High: 3, Kids: [][]pattern.Item{a, {a[0], a[0]}}}
	others := slices.Repeat(items(i), 20)
	others[0].Kind = 0
	others[1].Name = "B"
	others[2].Var = "A"
	others[3].Pred = i.Pred[:1]
	others[4].Pred = nil
	others[5].Pred = []expr.Expr{i.Pred[1], i.Pred[0]}
	others[6].Pred = []expr.Expr{num(1), binary("+", num(2), num(4))}
	others[7].Pred = []expr.Expr{num(1), binary("-", num(2), num(3))}
	others[8].Pred = append(slices.Clip(i.Pred), num(1))
	others[9].Low = 1
	others[10].High = 4
	others[11].Low, others[11].High = 3, 2
	others[12].Kids = nil
	others[13].Kids = i.Kids[:1]
	others[14].Kids = [][]pattern.Item{i.Kids[1], i.Kids[0]}
	others[15].Kids = [][]pattern.Item{a, {a[0], a[0], a[0]}}
	others[16].Kids = [][]pattern.Item{a, {a[0], one("A", "b")}}
	others[17].Kids = [][]pattern.Item{a, {a[0], a[0]}, nil}
	others[18].Low += 1 << 32
	others[19].Name, others[19].Var = "", "Aa"
	checkSame(t, items(i), deepCopy(items(i)), true)
	for n, other := range others {
		checkSame(t, items(i), items(other), false)
		checkSame(t, items(other), deepCopy(items(other)), true)
		for at, l := range places(i) {
			checkSame(t, l, places(i)[at], true)
			checkSame(t, l, places(other)[at], false)
		}
		if t.Failed() {
			t.Fatal(n)
		}
	}
}

// P9.1, P5: what is nothing is nil or empty.
func TestSameOfNothing(t *testing.T) {
	checkSame(t, nil, nil, true)
	checkSame(t, nil, items(), true)
	checkSame(t, items(pattern.Item{}), items(pattern.Item{Pred: []expr.Expr{}, Kids: make([][]pattern.Item, 0, 3)}), true)
	checkSame(t, items(alt(nil, nil)), items(alt(items(), items())), true)
	checkSame(t, items(alt(nil)), items(alt()), false)
	checkSame(t, nil, items(pattern.Item{}), false)
	checkSame(t, items(pattern.Item{}), items(pattern.Item{}, pattern.Item{}), false)
	checkSame(t, items(one("A", "a"), one("B", "b")), items(one("B", "b"), one("A", "a")), false)
	checkSame(t, items(one("A", "a", expr.Expr{})), items(one("A", "a")), false)
}

// P9.1: all of these against all.
func TestSameOfMixes(t *testing.T) {
	l := slices.Concat(rightItems(), wrongItems(), mixes())
	for at := 0; at < len(l); at += 211 {
		for other := at % 5; other < len(l); other += 5 {
			if got, want := pattern.SameItems(items(l[at]), items(l[other])), equal(items(l[at]), items(l[other])); got != want {
				t.Fatalf("SameItems(%+v, %+v) = %t", l[at], l[other], got)
			}
		}
	}
}

// P9.1: each field of a Query is asked, of what is right and of what is not.
func TestSame(t *testing.T) {
	a, b := items(one("A", "a")), items(one("A", "a"), one("B", "b"))
	queries := []pattern.Query{{}, {Within: 1}, {Within: -1}, {Within: 1 + 1<<32}, {By: "k"}, {By: "K"}, {By: "WITHIN"}, {Within: 1, By: "k"}, {Items: a}, {Items: a, Within: 1},
		{Items: a, Within: 1, By: "k"}, {Items: a, By: "k"}, {Items: b}, {Items: b, Within: 1, By: "k"}, {Items: b[1:]}, {Items: items(alt(a, b))}, {Items: items(alt(b, a))}}
	for n, x := range queries {
		for m, y := range queries {
			y.Items = deepCopy(y.Items)
			checkSameQuery(t, x, y, n == m)
		}
	}
	checkSameQuery(t, pattern.Query{}, pattern.Query{Items: items()}, true)
}

// P9.1: how many there are, with all below, whatever they are.
func TestCount(t *testing.T) {
	a, b := one("A", "a"), not("B", "b", binary("<", num(1), num(2)))
	checkCount(t, nil, 0)
	checkCount(t, items(), 0)
	checkCount(t, items(a), 1)
	checkCount(t, items(a, b, a), 3)
	checkCount(t, items(times("A", "a", 4, 4)), 1)
	checkCount(t, items(alt(items(a), items(b))), 3)
	checkCount(t, items(a, alt(items(a, b, a), items(b), items(alt(items(a), items(b))))), 9)
	checkCount(t, items(alt(), alt(nil), alt(nil, nil), pattern.Item{}), 4)
	checkCount(t, items(pattern.Item{Kind: -7, Kids: [][]pattern.Item{{a, b}, nil, {a}}}), 4)
	checkCount(t, items(pattern.Item{Name: "A", Var: "a", Low: 9, Kids: [][]pattern.Item{{alt(items(a))}}}, a), 4)
	checkCount(t, make([]pattern.Item, 1<<20), 1<<20)
	checkCount(t, items(alt(make([]pattern.Item, 1000), make([]pattern.Item, 2000))), 3001)
}

// P9.1: one more than the most of what is below, whatever it is.
func TestDeep(t *testing.T) {
	a, b := one("A", "a"), not("B", "b", binary("<", num(1), unary("-", num(2))))
	checkDeep(t, nil, 0)
	checkDeep(t, items(), 0)
	checkDeep(t, items(a), 1)
	checkDeep(t, items(a, b, a), 1)
	checkDeep(t, items(b), 1)
	two := alt(items(a), items(b))
	three := alt(items(a, two), items(b))
	for _, l := range [][]pattern.Item{items(two), items(two, a), items(a, two), items(a, two, a), items(two, two)} {
		checkDeep(t, l, 2)
	}
	for _, l := range [][]pattern.Item{items(three), items(three, two), items(two, three), items(two, three, a), items(alt(items(a), items(two))), items(alt(items(two), items(a)), a)} {
		checkDeep(t, l, 3)
	}
	checkDeep(t, items(alt(items(three), items(two), items(a))), 4)
	checkDeep(t, items(alt()), 1)
	checkDeep(t, items(alt(nil, items())), 1)
	checkDeep(t, items(alt(nil, items(alt(nil)))), 2)
	checkDeep(t, items(pattern.Item{Kind: -7, Kids: [][]pattern.Item{nil, {a}, nil}}), 2)
	checkDeep(t, items(a, pattern.Item{Name: "A", Var: "a", Kids: [][]pattern.Item{{three}}}), 4)
	checkDeep(t, make([]pattern.Item, 1<<20), 1)
	for n := range 50 {
		checkDeep(t, deep(n, items(a), inFirst), n+1)
		checkDeep(t, deep(n, items(a), inLast), n+1)
		checkDeep(t, deep(n, items(alt()), inFirst), n+1)
	}
}

// P9.1: of all places of all of these, against a plain count.
func TestCountAndDeepOfPlaces(t *testing.T) {
	for _, i := range slices.Concat(rightItems(), wrongItems()) {
		for _, l := range places(i) {
			checkCount(t, l, expectedCount(l))
			checkDeep(t, l, expectedDeep(l))
		}
	}
}

// P9.2: the chapter's example, and each kind.
func TestPut(t *testing.T) {
	a := one("A", "a")
	checkPutQuery(t, pattern.Query{Items: items(a, not("B", "b"), one("C", "c")), Within: 5}, "A a ; !B b ; C c WITHIN 5")
	checkPut(t, items(a), "A a")
	checkPut(t, items(one("é", "\ufffd")), "é \ufffd")
	checkPut(t, items(one("within", strings.Repeat("z", 24))), "within "+strings.Repeat("z", 24))
	checkPut(t, items(one("A", "a", binary("<", ref("a", "x"), num(5)))), "A a[a.x < 5]")
	checkPut(t, items(not("A", "a")), "!A a")
	checkPut(t, items(not("A", "a", unary("!", binary("<", ref("a", "x"), num(5))))), "!A a[!(a.x < 5)]")
	checkPut(t, items(times("A", "a", 1, 1)), "A a{1,1}")
	checkPut(t, items(times("A", "a", 2, 4, binary("-", ref("a", "x"), binary("-", num(1), num(0))))), "A a{2,4}[a.x - (1 - 0)]")
	checkPut(t, items(alt(items(a), items(one("B", "b")))), "(A a | B b)")
	checkPut(t, items(alt(items(a), items(a), items(a))), "(A a | A a | A a)")
	checkPut(t, items(alt(items(a, not("B", "b"), a), items(times("C", "c", 1, 3)))), "(A a ; !B b ; A a | C c{1,3})")
	checkPut(t, items(alt(items(alt(items(a), items(a))), items(alt(items(a), items(a))))), "((A a | A a) | (A a | A a))")
	checkPut(t, items(a, alt(items(a), items(alt(items(a), items(a)), a)), a), "A a ; (A a | (A a | A a) ; A a) ; A a")
	checkPut(t, items(a, a, a, a), "A a ; A a ; A a ; A a")
}

// P9.2: of each Pred, of each kind that has one.
func TestPutOfPreds(t *testing.T) {
	for _, e := range preds() {
		text := "[" + expr.Put(e) + "]"
		checkPut(t, items(one("A", "a", e)), "A a"+text)
		checkPut(t, items(times("A", "a", 1, 2, e)), "A a{1,2}"+text)
		checkPut(t, items(not("A", "a", e), not("B", "b", e)), "!A a"+text+" ; !B b"+text)
		checkPut(t, items(alt(items(one("A", "a", e)), items(not("A", "a", e)))), "(A a"+text+" | !A a"+text+")")
	}
}

// P9.2: of each Low and High.
func TestPutOfTimes(t *testing.T) {
	for low := 1; low <= 4; low++ {
		for high := low; high <= 4; high++ {
			checkPut(t, items(times("A", "a", low, high)), "A a{"+strconv.Itoa(low)+","+strconv.Itoa(high)+"}")
		}
	}
}

// P9.2: of each Within and By.
func TestPutOfQueries(t *testing.T) {
	l := items(one("A", "a"))
	for within, text := range map[int64]string{0: "0", 1: "1", 10: "10", 999999999: "999999999", 1000000000: "1000000000"} {
		checkPutQuery(t, pattern.Query{Items: l, Within: within}, "A a WITHIN "+text)
		for _, by := range names() {
			checkPutQuery(t, pattern.Query{Items: l, Within: within, By: by}, "A a WITHIN "+text+" BY "+by)
		}
	}
}

// P9.1, P9.2: all right lists of a few Items, against a plain model.
func TestSmallLists(t *testing.T) {
	for size := 1; size <= 5; size++ {
		for _, l := range rightLists(size, leaves()) {
			checkRight(t, l, true)
			checkPut(t, l, expectedPut(l))
			checkCount(t, l, size)
			checkDeep(t, l, expectedDeep(l))
			if t.Failed() {
				return
			}
		}
	}
}

// P9.2, P1: of what is not right it may be any text, but there is one.
func TestPutOfWhatIsNotRight(t *testing.T) {
	for _, i := range slices.Concat(wrongItems(), mixes()) {
		pattern.PutItems(items(i))
		pattern.Put(pattern.Query{Items: items(i), Within: math.MinInt64, By: "BY"})
	}
	for _, i := range wrongItems() {
		for _, l := range places(i) {
			pattern.PutItems(l)
			pattern.Put(pattern.Query{Items: l})
		}
	}
	pattern.PutItems(nil)
	pattern.Put(pattern.Query{})
	pattern.Put(pattern.Query{Items: items(one("A", "a")), Within: math.MaxInt64})
}

// manyRight: right lists that are near to one another, no two the same.
func manyRight() [][]pattern.Item {
	few := []pattern.Item{one("A", "a"), one("a", "A"), one("Aa", "a"), one("A", "aa"), one("B", "a"), one("_", "_"), one("é", "a"), one("WITHIN_", "BY_"), not("A", "a"), not("a", "A")}
	for low := 1; low <= 4; low++ {
		for high := low; high <= 4; high++ {
			few = append(few, times("A", "a", low, high))
		}
	}
	for _, e := range preds() {
		few = append(few, one("A", "a", e), not("A", "a", e), times("A", "a", 1, 2, e), times("A", "a", 2, 2, e))
	}
	var l [][]pattern.Item
	for _, a := range few {
		l = append(l, items(a))
		for _, b := range few {
			l = append(l, items(a, b), items(alt(items(a), items(b))), items(alt(items(a, b), items(b))), items(alt(items(a), items(a, b))),
				items(alt(items(a), items(alt(items(b), items(b))))), items(alt(items(alt(items(a), items(a))), items(b))), items(alt(items(a), items(b), items(b))),
				items(a, alt(items(b), items(b))), items(alt(items(a), items(a)), b))
		}
	}
	return l
}

// P9.3: what is put is alike just if they are the same.
func TestPutTellsApart(t *testing.T) {
	seen := map[string][]pattern.Item{}
	l := manyRight()
	for size := 1; size <= 5; size++ {
		l = append(l, rightLists(size, leaves())...)
	}
	for _, one := range l {
		text := pattern.PutItems(one)
		if other, ok := seen[text]; ok && (!pattern.SameItems(other, one) || !equal(other, one)) {
			t.Fatalf("%q is put of %+v and of %+v", text, other, one)
		}
		seen[text] = one
		if again := pattern.PutItems(deepCopy(one)); again != text || !pattern.SameItems(one, deepCopy(one)) {
			t.Fatalf("PutItems(%+v) = %q, and of the same %q", one, text, again)
		}
	}
}

// P9.3: of each two of a few queries.
func TestSameAsWhatIsPut(t *testing.T) {
	var queries []pattern.Query
	for at, l := range manyRight() {
		if at%97 != 0 {
			continue
		}
		for _, within := range []int64{0, 1, 11, 1000000000} {
			for _, by := range []string{"", "k", "A", "a"} {
				queries = append(queries, pattern.Query{Items: l, Within: within, By: by})
			}
		}
	}
	var texts []string
	for _, q := range queries {
		texts = append(texts, pattern.Put(q))
	}
	for n, a := range queries {
		for m, b := range queries {
			if got := pattern.Same(a, b); got != (texts[n] == texts[m]) || got != (n == m) {
				t.Fatalf("Same is %t of %q and %q", got, texts[n], texts[m])
			}
		}
	}
}

// P9.2, P9.3: what is put reads as what it was.
func TestPutReadsAsItWas(t *testing.T) {
	known := preds()
	l := manyRight()
	for size := 1; size <= 5; size++ {
		l = append(l, rightLists(size, leaves())...)
	}
	for at, one := range l {
		r := reader{rest: pattern.PutItems(one), preds: known}
		if got := r.items(); !equal(got, one) || r.rest != "" {
			t.Fatalf("%q reads as %+v, and %q is left", pattern.PutItems(one), got, r.rest)
		}
		q := pattern.Query{Items: one, Within: int64(at), By: append(names(), "")[at%13]}
		r = reader{rest: pattern.Put(q), preds: known}
		if got := r.query(); !equal(got.Items, one) || got.Within != q.Within || got.By != q.By || r.rest != "" {
			t.Fatalf("%q reads as %+v, and %q is left", pattern.Put(q), got, r.rest)
		}
	}
}

// P3: nothing that is handed in is written into, nor what stands behind it.
func TestNothingIsWritten(t *testing.T) {
	behind := one("behind", "behind", num(7))
	spare := append(make([]pattern.Item, 0, 4), one("A", "a"), not("B", "b", num(1)))
	spare[:4][2], spare[:4][3] = behind, behind
	kids := append(make([][]pattern.Item, 0, 4), spare, items(one("C", "c")))
	kids[:3][2] = items(behind)
	pred := append(make([]expr.Expr, 0, 3), binary("<", num(1), ref("a", "x")))
	pred[:3][1] = num(7)
	lists := [][]pattern.Item{spare, items(alt(kids...)), items(pattern.Item{Kind: pattern.Alt, Kids: kids}, one("A", "a", pred...)),
		items(pattern.Item{Kind: pattern.Times, Name: "A", Var: "a", Low: 1, High: 2, Pred: pred}), items(pattern.Item{Kind: 7, Kids: kids, Pred: pred})}
	for _, i := range slices.Concat(rightItems(), wrongItems()) {
		lists = append(lists, places(i)...)
	}
	for _, l := range lists {
		before, other := deepCopy(l), deepCopy(l)
		q := pattern.Query{Items: l, Within: 7, By: "k"}
		pattern.RightItems(l)
		pattern.Right(q)
		pattern.SameItems(l, other)
		pattern.Same(q, pattern.Query{Items: other, Within: 7, By: "k"})
		pattern.PutItems(l)
		pattern.Put(q)
		pattern.Count(l)
		pattern.Deep(l)
		if !equal(before[:cap(before)][:cap(l)], l[:cap(l)]) || !equal(before, other) {
			t.Errorf("%+v was %+v", l, before)
		}
	}
	if !equal(spare[:4][2:], items(behind, behind)) || !equal(kids[:3][2], items(behind)) || !expr.Same(pred[:3][1], num(7)) || !expr.Same(pred[:3][2], expr.Expr{}) {
		t.Error("what stands behind was written into")
	}
}

// P4: what is answered hangs on the arguments alone, whatever was asked ahead.
func TestSameAgain(t *testing.T) {
	l := items(one("A", "a"), alt(items(not("B", "b"), one("C", "c")), items(times("D", "d", 1, 2))))
	for range 3 {
		checkRight(t, l, true)
		checkRight(t, wrongItems()[:1], false)
		checkPut(t, l, "A a ; (!B b ; C c | D d{1,2})")
		checkCount(t, l, 5)
		checkCount(t, nil, 0)
		checkDeep(t, l, 2)
		checkDeep(t, nil, 0)
		checkSame(t, l, deepCopy(l), true)
		checkSame(t, l, l[:1], false)
	}
}

// deep: leaf, with n Items above one another.
func deep(n int, leaf []pattern.Item, grow func([]pattern.Item) []pattern.Item) []pattern.Item {
	for range n {
		leaf = grow(leaf)
	}
	return leaf
}

func inFirst(l []pattern.Item) []pattern.Item {
	return items(alt(l, items(one("A", "a"))))
}

func inLast(l []pattern.Item) []pattern.Item {
	return items(one("A", "a"), alt(items(one("A", "a")), l))
}

// P1: trees as deep as they may be end, and in the time of their size.
func TestDeepTrees(t *testing.T) {
	const n = 99998
	b := items(one("B", "b"))
	first, last := deep(n, b, inFirst), deep(n, b, inLast)
	if got, want := pattern.PutItems(first), strings.Repeat("(", n)+"B b"+strings.Repeat(" | A a)", n); got != want {
		t.Errorf("PutItems of first Kids has %d bytes; want %d", len(got), len(want))
	}
	if got, want := pattern.PutItems(last), strings.Repeat("A a ; (A a | ", n)+"B b"+strings.Repeat(")", n); got != want {
		t.Errorf("PutItems of last Kids has %d bytes; want %d", len(got), len(want))
	}
	for at, grow := range []func([]pattern.Item) []pattern.Item{inFirst, inLast} {
		l, other := deep(n, b, grow), deep(n, b, grow)
		wrong := deep(n, items(one("B", "")), grow)
		if !pattern.RightItems(l) || pattern.RightItems(wrong) || !pattern.SameItems(l, other) || pattern.SameItems(l, wrong) {
			t.Error("RightItems or SameItems")
		}
		if pattern.Deep(l) != n+1 || pattern.Count(l) != (2+at)*n+1 || pattern.Count(wrong) != pattern.Count(l) || pattern.Deep(wrong) != n+1 {
			t.Error("Deep or Count", pattern.Deep(l), pattern.Count(l))
		}
		pattern.PutItems(wrong)
		pattern.Put(pattern.Query{Items: wrong})
		if got := pattern.Put(pattern.Query{Items: l, Within: 1}); got != pattern.PutItems(l)+" WITHIN 1" {
			t.Error("Put")
		}
	}
}

// P1: Preds as deep as they may be, below Items that are.
func TestDeepPreds(t *testing.T) {
	const n = 49999
	pred, wrong := num(1), num(-1)
	for range n {
		pred, wrong = unary("-", pred), unary("-", wrong)
	}
	l, other := deep(n, items(one("B", "b", pred)), inFirst), deep(n, items(one("B", "b", wrong)), inFirst)
	if !pattern.RightItems(l) || pattern.RightItems(other) || pattern.SameItems(l, other) || !pattern.SameItems(other, deep(n, items(one("B", "b", wrong)), inFirst)) {
		t.Error("RightItems or SameItems")
	}
	if got, want := pattern.PutItems(l), strings.Repeat("(", n)+"B b["+strings.Repeat("-", n)+"1]"+strings.Repeat(" | A a)", n); got != want {
		t.Errorf("PutItems has %d bytes; want %d", len(got), len(want))
	}
}

// P1: lists as long as they come, and many Kids.
func TestWideTrees(t *testing.T) {
	const n = 200000
	a, wrong := items(one("A", "a")), items(one("A", "9"))
	l := slices.Repeat(a, n)
	kids := items(alt(slices.Repeat([][]pattern.Item{a}, n)...))
	checkWide := func(l []pattern.Item, count, deep, bytes int) {
		t.Helper()
		if !pattern.RightItems(l) || pattern.Count(l) != count || pattern.Deep(l) != deep || len(pattern.PutItems(l)) != bytes || !pattern.SameItems(l, slices.Clone(l)) {
			t.Error(pattern.RightItems(l), pattern.Count(l), pattern.Deep(l), len(pattern.PutItems(l)))
		}
	}
	checkWide(l, n, 1, 6*n-3)
	checkWide(kids, n+1, 2, 6*n-1)
	if pattern.RightItems(append(slices.Clip(l), wrong...)) || pattern.RightItems(append(wrong, l...)) {
		t.Error("RightItems of a wrong one at an end")
	}
	if pattern.RightItems(items(alt(append(slices.Clip(kids[0].Kids), wrong)...))) {
		t.Error("RightItems of a wrong last Kid")
	}
}
