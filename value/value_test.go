package value_test

import (
	"math"
	"math/big"
	"slices"
	"testing"

	"jettison/expr"
	"jettison/value"
)

const (
	lowest  = math.MinInt64
	highest = math.MaxInt64
)

func num(n int64) expr.Expr {
	return expr.Expr{Kind: expr.Num, N: n}
}

func ref(name, field string) expr.Expr {
	return expr.Expr{Kind: expr.Ref, Var: name, Field: field}
}

func unary(op string, kid expr.Expr) expr.Expr {
	return expr.Expr{Kind: expr.Unary, Op: op, Kids: []expr.Expr{kid}}
}

func binary(op string, first, second expr.Expr) expr.Expr {
	return expr.Expr{Kind: expr.Binary, Op: op, Kids: []expr.Expr{first, second}}
}

// below: an Expr that tells n, though a Num of it is not right.
func below(n int64) expr.Expr {
	if n == lowest {
		return binary("-", below(lowest+1), num(1))
	}
	return unary("-", num(-n))
}

// constant: an Expr that tells n.
func constant(n int64) expr.Expr {
	if n < 0 {
		return below(n)
	}
	return num(n)
}

func yes() expr.Expr {
	return binary("==", num(1), num(1))
}

func no() expr.Expr {
	return binary("==", num(1), num(2))
}

// badNumber, badTruth: right ones, that are bad.
func badNumber() expr.Expr {
	return binary("/", num(1), num(0))
}

func badTruth() expr.Expr {
	return binary("==", badNumber(), num(1))
}

func sums() []string {
	return []string{"+", "-", "*", "/", "%"}
}

func comparisons() []string {
	return []string{"==", "!=", "<", "<=", ">", ">="}
}

func ops() []string {
	return slices.Concat([]string{"&&", "||"}, comparisons(), sums())
}

// edges: numbers at the ends of 64 bits, and of half as many, those next to them, and what they are made of.
func edges() []int64 {
	l := []int64{0, 5, 6, 7, 10, 73, 127, 337, 92737, 649657, 99457304386111, 3037000499, 3037000500, 6074000999, 6074001000}
	for _, shift := range []int{0, 1, 2, 30, 31, 32, 33, 61, 62} {
		for add := int64(-2); add <= 2; add++ {
			l = append(l, int64(1)<<shift+add)
		}
	}
	l = append(l, highest, highest-1, highest-2, highest/2, highest/3, highest/7, highest/9)
	for _, n := range slices.Clone(l) {
		l = append(l, -n, lowest+n)
	}
	slices.Sort(l)
	return slices.Compact(l)
}

// exact: what a and b are without a limit of bits, nothing where they are nothing.
func exact(op string, a, b *big.Int) *big.Int {
	switch op {
	case "+":
		return new(big.Int).Add(a, b)
	case "-":
		return new(big.Int).Sub(a, b)
	case "*":
		return new(big.Int).Mul(a, b)
	}
	if b.Sign() == 0 {
		return nil
	}
	quotient, rest := new(big.Int).QuoRem(a, b, new(big.Int))
	if op == "/" {
		return quotient
	}
	// What is left of -2^63 by -1 is 0, and is refused all the same, as its quotient is.
	if !quotient.IsInt64() {
		return nil
	}
	return rest
}

// expectedSum: by the chapter's words alone.
func expectedSum(op string, a, b int64) (int64, bool) {
	n := exact(op, big.NewInt(a), big.NewInt(b))
	if n == nil || !n.IsInt64() {
		return 0, false
	}
	return n.Int64(), true
}

func sum(op string, a, b int64) (int64, bool) {
	switch op {
	case "+":
		return value.Add(a, b)
	case "-":
		return value.Sub(a, b)
	case "*":
		return value.Mul(a, b)
	case "/":
		return value.Div(a, b)
	}
	return value.Rem(a, b)
}

func compares(op string, a, b int64) bool {
	order := big.NewInt(a).Cmp(big.NewInt(b))
	switch op {
	case "==":
		return order == 0
	case "!=":
		return order != 0
	case "<":
		return order == -1
	case "<=":
		return order != 1
	case ">":
		return order == 1
	}
	return order != -1
}

func expectedLook(l []value.Bind, name, field string) (int64, bool) {
	last := -1
	for i := range l {
		if l[i].Var == name {
			last = i
		}
	}
	if last == -1 {
		return 0, false
	}
	for i := range l[last].Fields {
		if l[last].Fields[i] == field {
			if i < len(l[last].V) {
				return l[last].V[i], true
			}
			return 0, false
		}
	}
	return 0, false
}

// expectedEval: by the chapter's words alone, but that of a wrong Expr it asks package expr. The false is what is bad.
func expectedEval(e expr.Expr, l []value.Bind) (int64, bool) {
	if expr.Type(e) == expr.None {
		return 0, false
	}
	switch e.Kind {
	case expr.Num:
		return e.N, true
	case expr.Ref:
		return expectedLook(l, e.Var, e.Field)
	}
	first, ok := expectedEval(e.Kids[0], l)
	if !ok {
		return 0, false
	}
	switch {
	case e.Kind == expr.Unary && e.Op == "-":
		return expectedSum("-", 0, first)
	case e.Kind == expr.Unary:
		return 1 - first, true
	case e.Op == "&&" && first == 0, e.Op == "||" && first == 1:
		return first, true
	}
	second, ok := expectedEval(e.Kids[1], l)
	if !ok {
		return 0, false
	}
	switch {
	case e.Op == "&&", e.Op == "||":
		return second, true
	case slices.Contains(sums(), e.Op):
		return expectedSum(e.Op, first, second)
	case compares(e.Op, first, second):
		return 1, true
	}
	return 0, true
}

// typedTrees: all Exprs of just n Exprs that tell something, with these leaves.
func typedTrees(n int, leaves []expr.Expr) []expr.Expr {
	numbers, truths := [][]expr.Expr{nil, leaves}, [][]expr.Expr{nil, nil}
	for size := 2; size <= n; size++ {
		var numbersHere, truthsHere []expr.Expr
		for _, kid := range numbers[size-1] {
			numbersHere = append(numbersHere, unary("-", kid))
		}
		for _, kid := range truths[size-1] {
			truthsHere = append(truthsHere, unary("!", kid))
		}
		for ahead := 1; ahead < size-1; ahead++ {
			numbersHere = append(numbersHere, pairs(sums(), numbers[ahead], numbers[size-1-ahead])...)
			truthsHere = append(truthsHere, pairs(comparisons(), numbers[ahead], numbers[size-1-ahead])...)
			truthsHere = append(truthsHere, pairs([]string{"&&", "||"}, truths[ahead], truths[size-1-ahead])...)
		}
		numbers, truths = append(numbers, numbersHere), append(truths, truthsHere)
	}
	return slices.Concat(numbers[n], truths[n])
}

func pairs(ops []string, firsts, seconds []expr.Expr) []expr.Expr {
	var l []expr.Expr
	for _, op := range ops {
		for _, first := range firsts {
			for _, second := range seconds {
				l = append(l, binary(op, first, second))
			}
		}
	}
	return l
}

// binds: a.x is 3, a.y -7, b.x the lowest; of a.z there is no number, of c nothing at all.
func binds() []value.Bind {
	return []value.Bind{
		{Var: "a", Fields: []string{"x", "c"}, V: []int64{99, 98}},
		{Var: "b", Fields: []string{"x"}, V: []int64{lowest}},
		{Var: "a", Fields: []string{"x", "y", "z"}, V: []int64{3, -7}},
	}
}

func checkSum(t *testing.T, op string, a, b, want int64, wantOK bool) {
	t.Helper()
	if got, ok := sum(op, a, b); got != want || ok != wantOK {
		t.Errorf("%d %s %d: %d, %v; want %d, %v", a, op, b, got, ok, want, wantOK)
	}
}

func checkLook(t *testing.T, l []value.Bind, name, field string, want int64, wantOK bool) {
	t.Helper()
	if got, ok := value.Look(l, name, field); got != want || ok != wantOK {
		t.Errorf("Look(%v, %q, %q): %d, %v; want %d, %v", l, name, field, got, ok, want, wantOK)
	}
}

func checkEval(t *testing.T, e expr.Expr, l []value.Bind, want int64, wantOK bool) {
	t.Helper()
	if got, ok := value.Eval(e, l); got != want || ok != wantOK {
		t.Errorf("Eval(%s) %#v: %d, %v; want %d, %v", expr.Put(e), e, got, ok, want, wantOK)
	}
}

// checkTruth asks both Eval and Holds of an Expr that tells a truth.
func checkTruth(t *testing.T, e expr.Expr, l []value.Bind, want bool) {
	t.Helper()
	n := int64(0)
	if want {
		n = 1
	}
	checkEval(t, e, l, n, true)
	checkHolds(t, e, l, want)
}

func checkBad(t *testing.T, e expr.Expr, l []value.Bind) {
	t.Helper()
	checkEval(t, e, l, 0, false)
	checkHolds(t, e, l, false)
}

func checkHolds(t *testing.T, e expr.Expr, l []value.Bind, want bool) {
	t.Helper()
	if got := value.Holds(e, l); got != want {
		t.Errorf("Holds(%s) %#v: %v; want %v", expr.Put(e), e, got, want)
	}
}

// P8.1: ordinary numbers.
func TestSums(t *testing.T) {
	checkSum(t, "+", 2, 3, 5, true)
	checkSum(t, "+", -2, -3, -5, true)
	checkSum(t, "-", 2, 3, -1, true)
	checkSum(t, "-", 2, -3, 5, true)
	checkSum(t, "*", 2, 3, 6, true)
	checkSum(t, "*", -2, 3, -6, true)
	checkSum(t, "*", 0, 3, 0, true)
	checkSum(t, "*", 3, 0, 0, true)
}

// P8.1: the quotient is cut towards 0, and what is left has the sign of a.
func TestQuotients(t *testing.T) {
	for _, c := range [][4]int64{{7, 2, 3, 1}, {-7, 2, -3, -1}, {7, -2, -3, 1}, {-7, -2, 3, -1}, {6, 3, 2, 0}, {0, 5, 0, 0}, {1, 2, 0, 1}, {-1, 2, 0, -1}} {
		checkSum(t, "/", c[0], c[1], c[2], true)
		checkSum(t, "%", c[0], c[1], c[3], true)
	}
}

// P8.1: a quotient by 0, and that of -2^63 and -1, are refused, and what is left of them.
func TestQuotientsThatAreNone(t *testing.T) {
	for _, op := range []string{"/", "%"} {
		for _, a := range edges() {
			checkSum(t, op, a, 0, 0, false)
		}
		checkSum(t, op, lowest, -1, 0, false)
	}
	checkSum(t, "/", lowest, 1, lowest, true)
	checkSum(t, "%", lowest, 1, 0, true)
	checkSum(t, "/", lowest+1, -1, highest, true)
	checkSum(t, "%", lowest+1, -1, 0, true)
	checkSum(t, "/", highest, -1, -highest, true)
	checkSum(t, "/", lowest, -2, 1<<62, true)
	checkSum(t, "/", lowest, lowest, 1, true)
	checkSum(t, "%", lowest, highest, -1, true)
}

// P8.1: what leaves 64 bits is refused, what just stays within is told.
func TestEndsOfSums(t *testing.T) {
	checkSum(t, "+", highest, 0, highest, true)
	checkSum(t, "+", highest, 1, 0, false)
	checkSum(t, "+", 1, highest, 0, false)
	checkSum(t, "+", highest-1, 1, highest, true)
	checkSum(t, "+", lowest, -1, 0, false)
	checkSum(t, "+", -1, lowest, 0, false)
	checkSum(t, "+", lowest+1, -1, lowest, true)
	checkSum(t, "+", lowest, highest, -1, true)
	checkSum(t, "+", highest, highest, 0, false)
	checkSum(t, "+", lowest, lowest, 0, false)
	checkSum(t, "-", highest, -1, 0, false)
	checkSum(t, "-", lowest, 1, 0, false)
	checkSum(t, "-", 0, lowest, 0, false)
	checkSum(t, "-", -1, lowest, highest, true)
	checkSum(t, "-", 0, highest, -highest, true)
	checkSum(t, "-", -1, highest, lowest, true)
	checkSum(t, "-", -2, highest, 0, false)
	checkSum(t, "-", lowest, lowest, 0, true)
	checkSum(t, "-", highest, lowest, 0, false)
	checkSum(t, "*", lowest, 1, lowest, true)
	checkSum(t, "*", lowest, -1, 0, false)
	checkSum(t, "*", -1, lowest, 0, false)
	checkSum(t, "*", highest, -1, -highest, true)
	checkSum(t, "*", 1<<32, 1<<31, 0, false)
	checkSum(t, "*", -1<<32, 1<<31, lowest, true)
	checkSum(t, "*", 1<<32, 1<<32, 0, false)
	checkSum(t, "*", 3037000499, 3037000499, 9223372030926249001, true)
	checkSum(t, "*", 3037000500, 3037000500, 0, false)
}

// P8.1: all twos of numbers at the ends, of half the bits, next to these, and of what the greatest is made of.
func TestSumsOfEdges(t *testing.T) {
	for _, op := range sums() {
		for _, a := range edges() {
			for _, b := range edges() {
				want, ok := expectedSum(op, a, b)
				checkSum(t, op, a, b, want, ok)
			}
		}
	}
}

// P8.1: all twos of small numbers, and the same next to each end.
func TestSumsOfSmallNumbers(t *testing.T) {
	for _, op := range sums() {
		for a := int64(-40); a <= 40; a++ {
			for b := int64(-40); b <= 40; b++ {
				for _, from := range []int64{0, lowest + 40, highest - 40} {
					want, ok := expectedSum(op, from+a, b)
					checkSum(t, op, from+a, b, want, ok)
					want, ok = expectedSum(op, b, from+a)
					checkSum(t, op, b, from+a, want, ok)
				}
			}
		}
	}
}

// P8.2: a field of what is bound, by its name.
func TestLook(t *testing.T) {
	l := []value.Bind{{Var: "a", Fields: []string{"x", "y"}, V: []int64{3, -4}}, {Var: "b", Fields: []string{"y", "x"}, V: []int64{highest, lowest}}}
	checkLook(t, l, "a", "x", 3, true)
	checkLook(t, l, "a", "y", -4, true)
	checkLook(t, l, "b", "x", lowest, true)
	checkLook(t, l, "b", "y", highest, true)
	zero := []value.Bind{{Var: "a", Fields: []string{"x"}, V: []int64{0}}}
	checkLook(t, zero, "a", "x", 0, true)
}

// P8.2: there is no such Bind, no such field.
func TestLookOfWhatIsNotThere(t *testing.T) {
	l := []value.Bind{{Var: "a", Fields: []string{"x"}, V: []int64{3}}}
	for _, name := range []string{"", "A", "b", "aa", "x", "a ", "a\x00"} {
		checkLook(t, l, name, "x", 0, false)
	}
	for _, field := range []string{"", "X", "y", "xx", "a", " x", "x\x00"} {
		checkLook(t, l, "a", field, 0, false)
	}
	checkLook(t, nil, "a", "x", 0, false)
	checkLook(t, []value.Bind{}, "", "", 0, false)
	checkLook(t, []value.Bind{{}}, "a", "x", 0, false)
	checkLook(t, []value.Bind{{}}, "", "", 0, false)
	checkLook(t, []value.Bind{{Var: "a"}}, "a", "x", 0, false)
	checkLook(t, []value.Bind{{Var: "a", V: []int64{1}}}, "a", "x", 0, false)
}

// P8.2: the last of the Binds of a name counts, also where it has no such field, or no such number.
func TestLookTakesTheLast(t *testing.T) {
	l := []value.Bind{
		{Var: "a", Fields: []string{"x", "y"}, V: []int64{1, 2}},
		{Var: "a", Fields: []string{"x", "z"}, V: []int64{3}},
		{Var: "b", Fields: []string{"y"}, V: []int64{4}},
	}
	checkLook(t, l, "a", "x", 3, true)
	checkLook(t, l, "a", "y", 0, false)
	checkLook(t, l, "a", "z", 0, false)
	checkLook(t, l[:1], "a", "y", 2, true)
	checkLook(t, append(l[:2:2], value.Bind{Var: "a"}), "a", "x", 0, false)
}

// P8.2: the first of the fields of a name counts, also where there is no number of it.
func TestLookTakesTheFirstField(t *testing.T) {
	l := []value.Bind{{Var: "a", Fields: []string{"x", "y", "x", "y"}, V: []int64{1, 2, 3, 4}}}
	checkLook(t, l, "a", "x", 1, true)
	checkLook(t, l, "a", "y", 2, true)
}

// P8.2: there may be fewer numbers than fields, and more.
func TestLookOfOtherLengths(t *testing.T) {
	for n := range 5 {
		l := []value.Bind{{Var: "a", Fields: []string{"x", "y", "z"}, V: []int64{5, 6, 7, 8}[:n]}}
		checkLook(t, l, "a", "x", []int64{0, 5}[min(n, 1)], n >= 1)
		checkLook(t, l, "a", "y", []int64{0, 6}[min(n, 2)/2], n >= 2)
		checkLook(t, l, "a", "z", []int64{0, 7}[min(n, 3)/3], n >= 3)
	}
}

// P8.2: names are any texts here, held against one another byte by byte.
func TestLookOfAnyTexts(t *testing.T) {
	texts := []string{"", "a", "A", "é", "e\u0301", "\xff", "\xfe", "\ufffd", "WITHIN", "a.b", "\x00"}
	var l []value.Bind
	for i, name := range texts {
		bind := value.Bind{Var: name}
		for j, field := range texts {
			bind.Fields, bind.V = append(bind.Fields, field), append(bind.V, int64(100*i+j))
		}
		l = append(l, bind)
	}
	for i, name := range texts {
		for j, field := range texts {
			checkLook(t, l, name, field, int64(100*i+j), true)
		}
	}
}

// P8.2: all lists of up to three Binds out of these.
func TestLookOfSmallLists(t *testing.T) {
	var few []value.Bind
	for _, name := range []string{"a", "b"} {
		for _, fields := range [][]string{nil, {"x"}, {"y", "x"}, {"x", "y", "x"}} {
			for n := range 4 {
				few = append(few, value.Bind{Var: name, Fields: fields, V: []int64{1, 2, 3}[:n]})
			}
		}
	}
	lists := [][]value.Bind{nil}
	for at := 0; len(lists[at]) < 3; at++ {
		for i, bind := range few {
			// The numbers tell which of the Binds they are of.
			var v []int64
			for _, n := range bind.V {
				v = append(v, n+int64(10*i+1000*len(lists[at])))
			}
			bind.V = v
			lists = append(lists, append(slices.Clip(lists[at]), bind))
		}
	}
	for _, l := range lists {
		for _, name := range []string{"a", "b", "c"} {
			for _, field := range []string{"x", "y", "z"} {
				want, ok := expectedLook(l, name, field)
				checkLook(t, l, name, field, want, ok)
			}
		}
	}
}

// P8.3: of a Num its number, of a Ref what is bound.
func TestEvalOfLeaves(t *testing.T) {
	for _, n := range []int64{0, 1, 2, 1 << 31, highest - 1, highest} {
		checkEval(t, num(n), nil, n, true)
	}
	checkEval(t, ref("a", "x"), binds(), 3, true)
	checkEval(t, ref("a", "y"), binds(), -7, true)
	checkEval(t, ref("b", "x"), binds(), lowest, true)
}

// P8.3: a Ref of what is not bound, of a field or of a number that is not there, is bad.
func TestEvalOfRefsThatAreNotThere(t *testing.T) {
	for _, e := range []expr.Expr{ref("a", "z"), ref("a", "c"), ref("a", "w"), ref("b", "y"), ref("c", "x"), ref("A", "x")} {
		checkBad(t, e, binds())
		checkBad(t, unary("-", e), binds())
		for _, op := range slices.Concat(sums(), comparisons()) {
			checkBad(t, binary(op, e, num(1)), binds())
			checkBad(t, binary(op, num(1), e), binds())
		}
	}
	checkBad(t, ref("a", "x"), nil)
}

// P8.3: what is bound by a text that is no name is not asked for: the Ref is not right.
func TestEvalOfRefsThatAreNotRight(t *testing.T) {
	for _, name := range []string{"", "1", "WITHIN", "a b", "\xff"} {
		checkBad(t, ref(name, "x"), []value.Bind{{Var: name, Fields: []string{"x"}, V: []int64{1}}})
		checkBad(t, ref("a", name), []value.Bind{{Var: "a", Fields: []string{name}, V: []int64{1}}})
	}
}

// P8.3: `-` is 0 less its Kid, bad of what leaves 64 bits.
func TestEvalOfMinus(t *testing.T) {
	checkEval(t, unary("-", num(5)), nil, -5, true)
	checkEval(t, unary("-", num(0)), nil, 0, true)
	checkEval(t, unary("-", unary("-", num(5))), nil, 5, true)
	checkEval(t, unary("-", num(highest)), nil, -highest, true)
	checkEval(t, unary("-", ref("a", "y")), binds(), 7, true)
	checkBad(t, unary("-", ref("b", "x")), binds())
	checkBad(t, unary("-", below(lowest)), nil)
	checkBad(t, unary("-", badNumber()), nil)
}

// P8.3: `!` is 1 less its Kid.
func TestEvalOfNot(t *testing.T) {
	checkTruth(t, unary("!", yes()), nil, false)
	checkTruth(t, unary("!", no()), nil, true)
	checkTruth(t, unary("!", unary("!", yes())), nil, true)
	checkBad(t, unary("!", badTruth()), nil)
}

// P8.3: of `&&` and `||` the second Kid is asked just if the first one does not decide.
func TestEvalOfAndOr(t *testing.T) {
	const bad = 2
	of := func(n int) expr.Expr {
		return []expr.Expr{no(), yes(), badTruth()}[n]
	}
	and := [][]int{{0, 0, 0}, {0, 1, bad}, {bad, bad, bad}}
	or := [][]int{{0, 1, bad}, {1, 1, 1}, {bad, bad, bad}}
	for first := range 3 {
		for second := range 3 {
			for _, told := range []struct {
				op   string
				want int
			}{{"&&", and[first][second]}, {"||", or[first][second]}} {
				e := binary(told.op, of(first), of(second))
				if told.want == bad {
					checkBad(t, e, nil)
				} else {
					checkTruth(t, e, nil, told.want == 1)
				}
			}
		}
	}
}

// P8.3: all comparisons and operations of two numbers at the ends and next to them, as numbers and as what is bound.
func TestEvalOfTwoNumbers(t *testing.T) {
	few := []int64{lowest, lowest + 1, lowest / 2, -2, -1, 0, 1, 2, 3, 1 << 31, 1 << 32, highest / 2, highest - 1, highest}
	for _, a := range few {
		for _, b := range few {
			l := []value.Bind{{Var: "a", Fields: []string{"x"}, V: []int64{a}}, {Var: "b", Fields: []string{"x"}, V: []int64{b}}}
			for _, op := range comparisons() {
				checkTruth(t, binary(op, constant(a), constant(b)), nil, compares(op, a, b))
				checkTruth(t, binary(op, ref("a", "x"), ref("b", "x")), l, compares(op, a, b))
			}
			for _, op := range sums() {
				want, ok := expectedSum(op, a, b)
				checkEval(t, binary(op, constant(a), constant(b)), nil, want, ok)
				checkEval(t, binary(op, ref("a", "x"), ref("b", "x")), l, want, ok)
				checkHolds(t, binary(op, constant(a), constant(b)), nil, false)
			}
		}
	}
}

// P8.3: of a Binary of two numbers that is bad both Kids may be.
func TestEvalOfBadKids(t *testing.T) {
	for _, op := range slices.Concat(sums(), comparisons()) {
		checkBad(t, binary(op, badNumber(), num(0)), nil)
		checkBad(t, binary(op, num(0), badNumber()), nil)
		checkBad(t, binary(op, badNumber(), badNumber()), nil)
	}
	// What is bad stays so, though the number that it would be is of no weight.
	checkBad(t, binary("*", num(0), badNumber()), nil)
	checkBad(t, binary("<", badNumber(), binary("+", num(highest), num(1))), nil)
}

// P8.3: the order of the Kids counts.
func TestEvalOfOrder(t *testing.T) {
	checkEval(t, binary("-", num(2), num(5)), nil, -3, true)
	checkEval(t, binary("/", num(7), num(2)), nil, 3, true)
	checkEval(t, binary("%", num(2), num(7)), nil, 2, true)
	checkTruth(t, binary("<", num(2), num(5)), nil, true)
	checkTruth(t, binary("<", num(5), num(2)), nil, false)
	checkEval(t, binary("-", num(9), binary("-", num(5), num(2))), nil, 6, true)
	checkEval(t, binary("-", binary("-", num(9), num(5)), num(2)), nil, 2, true)
}

// P8.3: what is not right, or mixes numbers and truths, tells nothing, alone and at each place, also where a second Kid
// would not be asked.
func TestEvalOfWhatTellsNothing(t *testing.T) {
	wrong := []expr.Expr{
		num(-1), num(lowest), {Kind: -1}, {Kind: 4}, {Kind: 9}, {Kind: highest}, {Kind: expr.Num, Op: "+"}, {Kind: expr.Num, Var: "a"},
		{Kind: expr.Ref}, {Kind: expr.Ref, Var: "a"}, {Kind: expr.Ref, Var: "a", Field: "x", N: 1}, {Kind: expr.Unary}, {Kind: expr.Binary},
		{Kind: expr.Unary, Op: "-"}, {Kind: expr.Unary, Op: "-", Kids: []expr.Expr{num(1), num(2)}}, unary("+", num(1)), unary("", num(1)),
		{Kind: expr.Binary, Op: "+", Kids: []expr.Expr{num(1)}}, {Kind: expr.Binary, Op: "&&"}, {Kind: expr.Binary, Op: "+", Kids: []expr.Expr{num(1), num(2), num(3)}},
		binary("", num(1), num(2)), binary("=", num(1), num(2)), binary("!", yes(), no()), {Kind: expr.Num, N: 1, Kids: []expr.Expr{num(1)}},
		unary("!", num(1)), unary("-", yes()), binary("&&", num(1), num(1)), binary("||", num(0), yes()), binary("&&", yes(), num(1)),
		binary("==", yes(), yes()), binary("<", no(), num(1)), binary("+", yes(), num(1)), binary("%", num(1), no()),
	}
	for _, e := range wrong {
		checkBad(t, e, binds())
		checkBad(t, unary("-", e), binds())
		checkBad(t, unary("!", e), binds())
		for _, op := range ops() {
			for _, other := range []expr.Expr{num(1), yes(), no()} {
				checkBad(t, binary(op, e, other), binds())
				checkBad(t, binary(op, other, e), binds())
			}
		}
		checkBad(t, binary("||", yes(), unary("!", binary("<", e, num(1)))), binds())
		checkBad(t, binary("&&", no(), unary("!", e)), binds())
	}
}

// P8.3: Holds is of a Truth that tells 1 alone, not of a Number that is 1.
func TestHolds(t *testing.T) {
	checkHolds(t, yes(), nil, true)
	checkHolds(t, no(), nil, false)
	checkHolds(t, num(1), nil, false)
	checkHolds(t, num(0), nil, false)
	checkHolds(t, unary("-", unary("-", num(1))), nil, false)
	checkHolds(t, ref("a", "x"), []value.Bind{{Var: "a", Fields: []string{"x"}, V: []int64{1}}}, false)
	checkHolds(t, binary("==", badNumber(), num(1)), nil, false)
	checkHolds(t, expr.Expr{Kind: 9}, nil, false)
	checkHolds(t, binary("&&", binary("<", ref("a", "y"), ref("a", "x")), binary("==", ref("b", "x"), below(lowest))), binds(), true)
}

// P8.3: all that tells something, of up to five Exprs.
func TestEvalOfSmallTrees(t *testing.T) {
	leaves := []expr.Expr{num(0), num(1), num(highest), ref("a", "y"), ref("b", "x"), ref("c", "x")}
	for size := 1; size <= 5; size++ {
		for _, e := range typedTrees(size, leaves) {
			want, ok := expectedEval(e, binds())
			checkEval(t, e, binds(), want, ok)
			checkHolds(t, e, binds(), ok && want == 1 && expr.Type(e) == expr.Truth)
		}
	}
}

// P8.3: all `&&`, `||`, `!` and comparisons of few leaves, of up to nine Exprs.
func TestEvalOfSmallTruths(t *testing.T) {
	truths := [][]expr.Expr{{yes(), no(), badTruth()}}
	for range 2 {
		last := truths[len(truths)-1]
		here := slices.Clone(last)
		for _, kid := range last {
			here = append(here, unary("!", kid))
		}
		truths = append(truths, append(here, pairs([]string{"&&", "||"}, last, last)...))
	}
	for _, e := range truths[2] {
		want, ok := expectedEval(e, nil)
		checkEval(t, e, nil, want, ok)
		checkHolds(t, e, nil, ok && want == 1)
	}
}

// P8.4: what is bad holds not, nor does its contrary; of what is not bad just one of the two does.
func TestContraries(t *testing.T) {
	leaves := []expr.Expr{num(0), num(7), ref("a", "x"), ref("b", "x"), ref("c", "x")}
	some := 0
	for size := 1; size <= 5; size++ {
		for _, e := range typedTrees(size, leaves) {
			if expr.Type(e) != expr.Truth {
				continue
			}
			_, ok := value.Eval(e, binds())
			here, there := value.Holds(e, binds()), value.Holds(unary("!", e), binds())
			if here && there || ok != (here || there) {
				t.Errorf("Holds(%s), and of its contrary: %v, %v; bad: %v", expr.Put(e), here, there, !ok)
			}
			if !ok {
				some++
			}
		}
	}
	if some == 0 {
		t.Error("nothing was bad")
	}
}

// P8.4: as the chapter's example has it.
func TestExample(t *testing.T) {
	checkHolds(t, badTruth(), nil, false)
	checkHolds(t, unary("!", badTruth()), nil, false)
	checkHolds(t, binary("!=", badNumber(), num(1)), nil, false)
}

// P3: nothing that is handed in is written into, nor what stands behind it.
func TestNothingIsWritten(t *testing.T) {
	e := binary("||", binary("<", ref("a", "x"), unary("-", num(2))), unary("!", binary("==", ref("c", "x"), num(1))))
	kids := append(make([]expr.Expr, 0, 4), e.Kids...)
	e.Kids = kids
	behind := append(kids, num(77), num(78))
	l := append(make([]value.Bind, 0, 8), binds()...)
	after := append(l, value.Bind{Var: "a", Fields: []string{"x"}, V: []int64{77}})
	fields, v := append(make([]string, 0, 8), l[2].Fields...), append(make([]int64, 0, 8), l[2].V...)
	l[2].Fields, l[2].V = fields, v
	behindFields, behindV := append(fields, "w"), append(v, 77)
	value.Eval(e, l)
	value.Holds(e, l)
	value.Look(l, "a", "z")
	want := binary("||", binary("<", ref("a", "x"), unary("-", num(2))), unary("!", binary("==", ref("c", "x"), num(1))))
	if !expr.Same(e, want) || !expr.Same(behind[2], num(77)) || !expr.Same(behind[3], num(78)) {
		t.Error("the Expr was written into")
	}
	for i, bind := range binds() {
		if l[i].Var != bind.Var || !slices.Equal(l[i].Fields, bind.Fields) || !slices.Equal(l[i].V, bind.V) {
			t.Errorf("Bind %d was written into: %v", i, l[i])
		}
	}
	if after[3].Var != "a" || after[3].V[0] != 77 || behindFields[3] != "w" || behindV[2] != 77 {
		t.Error("what stands behind was written into")
	}
	checkLook(t, l, "a", "z", 0, false)
}

// P4: the same again tells the same, whatever was asked between.
func TestSameAgain(t *testing.T) {
	e := binary("<", ref("a", "x"), num(5))
	for range 3 {
		checkTruth(t, e, binds(), true)
		checkBad(t, e, nil)
		checkBad(t, badTruth(), binds())
		checkTruth(t, e, []value.Bind{{Var: "a", Fields: []string{"x"}, V: []int64{5}}}, false)
	}
}

// deep: leaf, with n Exprs above it.
func deep(n int, leaf expr.Expr, grow func(expr.Expr) expr.Expr) expr.Expr {
	for range n {
		leaf = grow(leaf)
	}
	return leaf
}

// P1: trees as deep as they may be.
func TestDeepTrees(t *testing.T) {
	const most = 99998
	first := func(op string, second expr.Expr) func(expr.Expr) expr.Expr {
		return func(e expr.Expr) expr.Expr { return binary(op, e, second) }
	}
	second := func(op string, first expr.Expr) func(expr.Expr) expr.Expr {
		return func(e expr.Expr) expr.Expr { return binary(op, first, e) }
	}
	minus := func(e expr.Expr) expr.Expr { return unary("-", e) }
	not := func(e expr.Expr) expr.Expr { return unary("!", e) }
	checkEval(t, deep(most, num(1), minus), nil, 1, true)
	checkEval(t, deep(most-1, num(1), minus), nil, -1, true)
	checkTruth(t, deep(most-1, yes(), not), nil, false)
	checkEval(t, deep(most, num(1), first("+", num(2))), nil, 2*most+1, true)
	checkEval(t, deep(most, num(1), second("-", num(1))), nil, 1, true)
	checkTruth(t, deep(most-1, yes(), first("&&", yes())), nil, true)
	checkTruth(t, deep(most-1, yes(), second("&&", yes())), nil, true)
	checkTruth(t, deep(most-1, no(), second("||", no())), nil, false)
	checkTruth(t, deep(most-2, badTruth(), second("&&", no())), nil, false)
	checkBad(t, deep(most-2, badTruth(), first("&&", no())), nil)
	checkBad(t, deep(most-2, badTruth(), not), nil)
	checkBad(t, deep(most, num(-1), minus), nil)
	checkBad(t, deep(most, yes(), first("+", num(2))), nil)
}

// P1: many Binds, of many fields.
func TestManyBinds(t *testing.T) {
	const many = 50000
	wide := value.Bind{Var: "b", Fields: make([]string, many), V: make([]int64, many)}
	wide.Fields[many-1], wide.V[many-1] = "x", 8
	l := []value.Bind{{Var: "a", Fields: []string{"x"}, V: []int64{7}}, wide}
	for range many {
		l = append(l, value.Bind{Var: "c"})
	}
	checkEval(t, binary("*", ref("a", "x"), ref("b", "x")), l, 56, true)
	checkBad(t, ref("c", "x"), l)
}
