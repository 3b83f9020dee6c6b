package code_test

import (
	"math"
	"slices"
	"testing"

	"jettison/code"
	"jettison/expr"
	"jettison/value"
)

// edges: numbers at the ends of 64 bits, and of half as many, and next to these.
func edges() []int64 {
	var l []int64
	for _, near := range []int64{0, 7, 1 << 31, 3037000500, 1 << 32, 1 << 62} {
		for add := int64(-2); add <= 2; add++ {
			l = append(l, near+add, -near+add)
		}
	}
	l = append(l, lowest, lowest+1, lowest+2, highest-2, highest-1, highest)
	slices.Sort(l)
	return slices.Compact(l)
}

// P14.2: a Push puts its number.
func TestRunPush(t *testing.T) {
	for _, n := range edges() {
		checkRun(t, nil, n, true, push(n))
	}
}

// P14.2: a Load puts what is bound; what is not bound is bad.
func TestRunLoad(t *testing.T) {
	checkRun(t, binds(), 3, true, load("a", "x"))
	checkRun(t, binds(), -7, true, load("a", "y"))
	checkRun(t, binds(), lowest, true, load("b", "x"))
	for _, i := range []code.Inst{load("a", "z"), load("a", "c"), load("a", "w"), load("b", "y"), load("c", "x"), load("A", "x"), load("", "x"), load("a", ""), load("", "")} {
		checkBad(t, binds(), i)
		checkBad(t, binds(), push(1), i, calc("=="))
		checkBad(t, binds(), i, not())
	}
	checkBad(t, nil, load("a", "x"))
	// Names are any texts here, as chapter 8 takes them.
	for _, name := range []string{"", "1", "WITHIN", "a b", "\xff"} {
		checkRun(t, []value.Bind{{Var: name, Fields: []string{name}, V: []int64{1}}}, 1, true, load(name, name))
	}
}

// P14.2: a Neg puts 0 less the top one, and is bad where that leaves 64 bits.
func TestRunNeg(t *testing.T) {
	for _, n := range edges() {
		if n == lowest {
			checkBad(t, nil, push(n), neg())
			checkBad(t, nil, push(n), neg(), neg())
			continue
		}
		checkRun(t, nil, -n, true, push(n), neg())
		checkRun(t, nil, n, true, push(n), neg(), neg())
	}
	checkRun(t, binds(), 7, true, load("a", "y"), neg())
	checkBad(t, binds(), load("b", "x"), neg())
	// The top one alone is turned.
	checkRun(t, nil, 2, true, push(5), push(3), neg(), calc("+"))
}

// P14.2, P6: a Not puts 1 less the top one; nothing says that it is bad, so what leaves 64 bits wraps.
func TestRunNot(t *testing.T) {
	checkRun(t, nil, 0, true, push(1), not())
	checkRun(t, nil, 1, true, push(0), not())
	checkRun(t, nil, -6, true, push(7), not())
	checkRun(t, nil, 2, true, push(-1), not())
	checkRun(t, nil, -highest+1, true, push(highest), not())
	checkRun(t, nil, highest, true, push(lowest+2), not())
	checkRun(t, nil, lowest, true, push(lowest+1), not())
	checkRun(t, nil, lowest+1, true, push(lowest), not())
	for _, n := range edges() {
		checkRun(t, nil, n, true, push(n), not(), not())
	}
	checkRun(t, nil, 5, true, push(5), push(1), not(), calc("+"))
}

// P14.2: a Calc takes the one below as the first, the top one as the second, and leaves what is below these.
func TestRunCalc(t *testing.T) {
	for _, c := range []struct {
		op   string
		want int64
	}{{"+", 10}, {"-", 4}, {"*", 21}, {"/", 2}, {"%", 1}, {"==", 0}, {"!=", 1}, {"<", 0}, {"<=", 0}, {">", 1}, {">=", 1}} {
		checkRun(t, nil, c.want, true, push(7), push(3), calc(c.op))
		checkRun(t, nil, 100-c.want, true, push(100), push(7), push(3), calc(c.op), calc("-"))
	}
	for _, op := range comparisons() {
		same := int64(0)
		if op == "==" || op == "<=" || op == ">=" {
			same = 1
		}
		checkRun(t, nil, same, true, push(5), push(5), calc(op))
	}
	checkRun(t, nil, -3, true, push(-7), push(2), calc("/"))
	checkRun(t, nil, -1, true, push(-7), push(2), calc("%"))
}

// P14.2: what leaves 64 bits, at both ends, is bad, and a quotient by 0; what just stays within is told.
func TestRunCalcAtTheEnds(t *testing.T) {
	for _, c := range []struct {
		op   string
		a, b int64
	}{{"+", highest, 1}, {"+", 1, highest}, {"+", lowest, -1}, {"-", lowest, 1}, {"-", highest, -1}, {"-", 0, lowest}, {"*", highest, 2}, {"*", lowest, 2},
		{"*", lowest, -1}, {"*", -1, lowest}, {"/", lowest, -1}, {"%", lowest, -1}, {"/", 1, 0}, {"%", 1, 0}, {"/", 0, 0}, {"%", 0, 0}} {
		checkBad(t, nil, push(c.a), push(c.b), calc(c.op))
		checkBad(t, nil, push(c.a), push(c.b), calc(c.op), not())
		checkBad(t, nil, push(c.a), push(c.b), calc(c.op), push(0), calc("*"))
	}
	checkRun(t, nil, highest, true, push(highest-1), push(1), calc("+"))
	checkRun(t, nil, lowest, true, push(lowest+1), push(1), calc("-"))
	checkRun(t, nil, lowest, true, push(1<<62), push(-2), calc("*"))
	checkRun(t, nil, highest, true, push(lowest+1), push(-1), calc("/"))
	checkRun(t, nil, 1, true, push(lowest), push(highest), calc("<"))
	checkRun(t, nil, 0, true, push(highest), push(lowest), calc("<"))
}

// P14.2: each Op of all twos of numbers at the ends, as chapter 8 tells.
func TestRunCalcOfEdges(t *testing.T) {
	for _, op := range slices.Concat(sums(), comparisons()) {
		for _, a := range edges() {
			for _, b := range edges() {
				n, ok := expectedCalc(op, a, b)
				checkRun(t, nil, n, ok, push(a), push(b), calc(op))
			}
		}
	}
}

// P14.2: a Calc of another Op is bad, whatever the numbers are.
func TestRunCalcOfOtherOps(t *testing.T) {
	for _, op := range noOps() {
		for _, n := range []int64{0, 1, 7} {
			checkBad(t, nil, push(n), push(1), calc(op))
			checkBad(t, nil, push(n), push(0), calc(op))
		}
	}
}

// P14.2: an And goes on at To with 0 on the stack, else takes what is there; an Or the other way round.
func TestRunAndOr(t *testing.T) {
	for _, n := range []int64{1, -1, 4, lowest, highest} {
		checkRun(t, nil, 9, true, push(n), and(3), push(9))
		checkRun(t, nil, n, true, push(n), or(3), push(9))
		checkRun(t, nil, 8, true, push(n), and(3), push(9), not(), neg())
	}
	checkRun(t, nil, 0, true, push(0), and(3), push(9))
	checkRun(t, nil, 9, true, push(0), or(3), push(9))
	// What is below the top one is left where it is.
	checkRun(t, nil, 5, true, push(5), push(0), and(4), push(2), calc("+"))
	checkRun(t, nil, 7, true, push(5), push(1), and(4), push(2), calc("+"))
	checkRun(t, nil, 6, true, push(5), push(1), or(4), push(2), calc("+"))
	checkRun(t, nil, 7, true, push(5), push(0), or(4), push(2), calc("+"))
}

// P14.2: To may be just the next place, the end, or any place behind it.
func TestRunPlacesOfAndOr(t *testing.T) {
	for _, to := range []int{3, 4, 5, 99, math.MaxInt32, math.MaxInt - 1, math.MaxInt} {
		checkRun(t, nil, 0, true, push(0), and(to), push(9))
		checkRun(t, nil, 9, true, push(1), and(to), push(9))
		checkRun(t, nil, 1, true, push(1), or(to), push(9))
		checkRun(t, nil, 9, true, push(0), or(to), push(9))
	}
	// At the next place there is one more on the stack, where it was not taken.
	checkBad(t, nil, push(0), and(2), push(9))
	checkRun(t, nil, 9, true, push(0), and(2), push(9), calc("+"))
	checkBad(t, nil, push(1), and(2), push(9), calc("+"))
	checkRun(t, nil, 9, true, push(1), and(2), push(9))
	checkRun(t, nil, 0, true, push(0), and(2))
	checkBad(t, nil, push(1), and(2))
	checkRun(t, nil, 1, true, push(1), or(2))
	checkBad(t, nil, push(0), or(2))
}

// P14.2: an And, or an Or, whose To is not behind it is bad, whether it would go on there or not.
func TestRunToThatIsNotBehind(t *testing.T) {
	for _, to := range []int{1, 0, -1, -4, math.MinInt32, math.MinInt} {
		for _, n := range []int64{0, 1, 5} {
			checkBad(t, nil, push(n), and(to), push(9))
			checkBad(t, nil, push(n), or(to), push(9))
			checkBad(t, nil, push(n), and(to))
			checkBad(t, nil, push(n), or(to))
		}
	}
	checkBad(t, nil, push(0), push(0), and(2), push(1), calc("+"))
	checkBad(t, nil, push(0), push(1), and(1), push(1), calc("+"))
}

// P14.2: of what is passed by nothing is asked.
func TestRunPassesBy(t *testing.T) {
	wrong := []code.Inst{load("c", "x"), calc("+"), calc("?"), {Op: 7}, {Op: -1}, neg(), and(0), or(-1)}
	for _, i := range wrong {
		checkRun(t, nil, 0, true, push(0), and(3), i)
		checkRun(t, nil, 1, true, push(1), or(3), i)
		checkRun(t, nil, 1, true, push(0), and(5), i, i, i, not())
	}
	// One that was passed by may lead nowhere, but one that is come to may not.
	checkRun(t, nil, 1, true, push(1), or(4), push(0), and(0))
	checkBad(t, nil, push(0), or(4), push(0), and(0))
}

// P14.2: an Op that is none is bad.
func TestRunOtherInstructions(t *testing.T) {
	for _, op := range []int{-1, 7, 8, 100, -100, math.MinInt, math.MaxInt, 1 << 32, 256} {
		checkBad(t, nil, code.Inst{Op: op})
		checkBad(t, nil, code.Inst{Op: op, N: 1, Var: "a", Field: "x", Calc: "+", To: 9})
		checkBad(t, nil, push(1), code.Inst{Op: op})
		checkBad(t, nil, push(1), push(1), code.Inst{Op: op, Calc: "+", To: 3})
		checkBad(t, nil, code.Inst{Op: op}, push(1))
	}
}

// P14.2: too few on the stack is bad.
func TestRunTooFew(t *testing.T) {
	for _, i := range []code.Inst{neg(), not(), calc("+"), calc("=="), and(9), or(9), and(1), or(1)} {
		checkBad(t, nil, i)
		checkBad(t, nil, i, push(1))
	}
	checkBad(t, nil, push(1), calc("+"))
	checkBad(t, nil, push(1), calc("+"), push(1))
	checkBad(t, nil, push(1), and(2), neg())
	checkBad(t, nil, push(1), and(3), and(3))
	checkBad(t, nil, push(1), push(1), calc("+"), calc("+"))
}

// P14.2: at the end there must be just one on the stack.
func TestRunEnd(t *testing.T) {
	checkBad(t, nil)
	checkBad(t, nil, push(5), push(6))
	checkBad(t, nil, push(5), push(6), push(7))
	checkBad(t, nil, push(5), push(6), push(7), calc("+"))
	checkBad(t, nil, push(1), and(2))
	checkBad(t, nil, push(1), push(0), and(3))
	checkBad(t, nil, push(1), push(0), and(99))
	if _, ok := code.Run([]code.Inst{}, nil); ok {
		t.Error("a code of nothing")
	}
}

// P14.2: fields that an instruction has no use of are of no weight.
func TestRunOtherFields(t *testing.T) {
	full := func(op int) code.Inst {
		return code.Inst{Op: op, N: 44, Var: "a", Field: "x", Calc: "-", To: -3}
	}
	checkRun(t, binds(), 44, true, full(code.Push))
	checkRun(t, binds(), 3, true, full(code.Load))
	checkRun(t, binds(), -44, true, full(code.Push), full(code.Neg))
	checkRun(t, binds(), -43, true, full(code.Push), full(code.Not))
	checkRun(t, binds(), 41, true, full(code.Push), full(code.Load), full(code.Calc))
	choice := full(code.And)
	choice.To = 3
	checkRun(t, nil, 9, true, push(1), choice, push(9))
	choice.Op = code.Or
	checkRun(t, nil, 1, true, push(1), choice, push(9))
}

// P14.2: Holds is of 1 alone.
func TestHolds(t *testing.T) {
	for _, n := range edges() {
		if got := code.Holds([]code.Inst{push(n)}, nil); got != (n == 1) {
			t.Errorf("Holds of %d: %v", n, got)
		}
	}
	for _, l := range [][]code.Inst{nil, {push(1), push(1)}, {push(1), neg()}, {load("c", "x")}, {push(1), push(0), calc("/")}, {{Op: 7}}} {
		if code.Holds(l, binds()) {
			t.Errorf("Holds(%v)", l)
		}
	}
	if !code.Holds([]code.Inst{load("a", "x"), push(2), calc(">")}, binds()) || code.Holds([]code.Inst{load("a", "x")}, binds()) {
		t.Error("of what is bound")
	}
}

// P14.4: the code of a predicate tells what the predicate does, with all that is bound, with some, and with nothing.
func TestRunOfSmallPredicates(t *testing.T) {
	some := 0
	for _, e := range smallTruths() {
		l, _ := code.Of(e)
		for _, b := range [][]value.Bind{nil, binds(), {{Var: "c", Fields: []string{"x"}, V: []int64{1}}}} {
			n, ok := value.Eval(e, b)
			checkRun(t, b, n, ok, l...)
			if value.Holds(e, b) {
				some++
			}
		}
	}
	if some == 0 {
		t.Error("nothing held")
	}
}

// P14.4, P14.2, P14.3: so of longer ones, up to as large as they may be; and never bad by its stack.
func TestRunOfLongPredicates(t *testing.T) {
	c := chance(14)
	var held, failed, bad int
	for range 3000 {
		e := c.truth(3 + c.below(254))
		l, _ := code.Of(e)
		n, ok := value.Eval(e, binds())
		checkOf(t, e, expectedCode(e, 0)...)
		checkRun(t, binds(), n, ok, l...)
		most, _ := expectedDeep(l)
		checkDeep(t, most, l...)
		if most == 0 {
			t.Errorf("the code of %s is bad by its stack", expr.Put(e))
		}
		switch {
		case !ok:
			bad++
		case n == 1:
			held++
		default:
			failed++
		}
	}
	if held < 100 || failed < 100 || bad < 100 {
		t.Errorf("%d held, %d did not, %d were bad", held, failed, bad)
	}
}

// P1: codes of very many instructions.
func TestRunOfLongCodes(t *testing.T) {
	const n = 1 << 19
	rising := slices.Repeat([]code.Inst{push(1)}, n)
	checkLong(t, "nothing taken", rising, 0, false, 0)
	checkLong(t, "all added", append(rising, slices.Repeat([]code.Inst{calc("+")}, n-1)...), n, true, n)
	checkLong(t, "turned often", append([]code.Inst{push(1)}, slices.Repeat([]code.Inst{not()}, n)...), 1, true, 1)
	far := []code.Inst{push(0)}
	for range n {
		far = append(far, or(2*n+1), push(0))
	}
	checkLong(t, "all to the end", far, 0, true, 1)
	far[0] = push(5)
	checkLong(t, "the first to the end", far, 5, true, 1)
}

func checkLong(t *testing.T, what string, l []code.Inst, want int64, wantOK bool, wantDeep int) {
	t.Helper()
	if got, ok := code.Run(l, nil); got != want || ok != wantOK {
		t.Errorf("Run, %s: %d, %v; want %d, %v", what, got, ok, want, wantOK)
	}
	if got, ok := code.Deep(l); got != wantDeep || ok != (wantDeep > 0) {
		t.Errorf("Deep, %s: %d, %v; want %d", what, got, ok, wantDeep)
	}
}

// P3, P4: nothing that is handed in is written into, nor what stands behind it, and the same is told again.
func TestRunWritesNothing(t *testing.T) {
	l := append(make([]code.Inst, 0, 16), push(5), load("a", "x"), and(5), push(2), neg(), calc("+"))
	behind := append(l, push(77))
	want := slices.Clone(behind)
	b := append(make([]value.Bind, 0, 8), binds()...)
	after := append(b, value.Bind{Var: "a", Fields: []string{"x"}, V: []int64{77}})
	for range 3 {
		checkRun(t, b, 3, true, l...)
		checkDeep(t, 2, l...)
		code.Same(l, l)
	}
	if !slices.Equal(behind, want) {
		t.Errorf("the code was written into: %v", behind)
	}
	for i, bind := range binds() {
		if b[i].Var != bind.Var || !slices.Equal(b[i].Fields, bind.Fields) || !slices.Equal(b[i].V, bind.V) {
			t.Errorf("Bind %d was written into: %v", i, b[i])
		}
	}
	if after[3].Var != "a" || after[3].V[0] != 77 {
		t.Error("what stands behind was written into")
	}
}
