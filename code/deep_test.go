package code_test

import (
	"math"
	"slices"
	"testing"

	"jettison/code"
	"jettison/value"
)

// P14.3: how many there are at most, at whichever place that is.
func TestDeep(t *testing.T) {
	checkDeep(t, 1, push(5))
	checkDeep(t, 1, load("c", "x"))
	checkDeep(t, 1, push(5), neg(), not())
	checkDeep(t, 2, push(5), push(3), calc("-"))
	checkDeep(t, 2, push(5), push(3), calc("-"), push(2), calc("+"))
	checkDeep(t, 3, push(5), push(3), push(2), calc("-"), calc("+"))
	checkDeep(t, 3, push(5), push(3), push(2), calc("-"), calc("+"), push(1), calc("+"))
	checkDeep(t, 3, push(5), push(1), calc("+"), push(3), push(2), calc("-"), calc("+"))
	checkDeep(t, 1, push(0), and(3), push(9))
	checkDeep(t, 1, push(0), or(3), push(9))
	checkDeep(t, 2, push(1), push(0), and(4), push(2), calc("+"))
	checkDeep(t, 3, push(0), and(7), push(1), push(1), push(1), calc("+"), calc("+"))
}

// P14.3: on a way that no numbers would take, too.
func TestDeepOfWaysNotTaken(t *testing.T) {
	// 1 is not 0, so it is never so deep.
	checkDeep(t, 3, push(1), or(7), push(1), push(1), push(1), calc("+"), calc("+"))
	for _, n := range []int64{0, 1} {
		checkDeep(t, 0, push(n), or(3), code.Inst{Op: 7})
		checkDeep(t, 0, push(n), and(3), code.Inst{Op: 7})
		checkDeep(t, 0, push(n), or(4), neg(), push(1))
		checkDeep(t, 0, push(n), and(4), neg(), push(1))
		checkDeep(t, 0, push(n), or(4), push(1), and(0))
		checkDeep(t, 0, push(n), or(2))
		checkDeep(t, 0, push(n), and(2))
		checkDeep(t, 0, push(n), or(2), push(9))
		checkDeep(t, 0, push(n), and(2), push(9), calc("+"))
	}
}

// P14.3: numbers, names, and the Op of a Calc are not asked.
func TestDeepAsksNoNumbers(t *testing.T) {
	for _, op := range noOps() {
		checkDeep(t, 2, push(5), push(3), calc(op))
	}
	checkDeep(t, 1, push(lowest), neg())
	checkDeep(t, 2, push(1), push(0), calc("/"))
	checkDeep(t, 1, load("", ""))
	checkDeep(t, 2, code.Inst{N: 4, To: -5}, code.Inst{Op: code.Load, To: 99}, code.Inst{Op: code.Calc, To: -1, N: 7})
}

// P14.3: an Op that is none.
func TestDeepOtherInstructions(t *testing.T) {
	for _, op := range []int{-1, 7, 8, 100, math.MinInt, math.MaxInt, 1 << 32, 256} {
		checkDeep(t, 0, code.Inst{Op: op})
		checkDeep(t, 0, push(1), code.Inst{Op: op})
		checkDeep(t, 0, push(1), push(1), code.Inst{Op: op, Calc: "+", To: 3})
	}
}

// P14.3: too few on the stack.
func TestDeepTooFew(t *testing.T) {
	for _, i := range []code.Inst{neg(), not(), calc("+"), and(1), or(1), and(2), or(2)} {
		checkDeep(t, 0, i)
		checkDeep(t, 0, i, push(1))
	}
	checkDeep(t, 0, push(1), calc("+"))
	checkDeep(t, 0, push(1), calc("+"), push(1))
	checkDeep(t, 0, push(1), and(3), and(4), push(1))
}

// P14.3: each To is behind, and at most at the end.
func TestDeepPlaces(t *testing.T) {
	for _, to := range []int{math.MinInt, -4, -1, 0, 1, 2, 4, 5, 99, math.MaxInt} {
		checkDeep(t, 0, push(0), and(to), push(9))
		checkDeep(t, 0, push(0), or(to), push(9))
	}
	checkDeep(t, 1, push(0), and(3), push(9), not())
	checkDeep(t, 1, push(0), and(4), push(9), not())
	checkDeep(t, 0, push(0), and(5), push(9), not())
	// It may not be at itself, though there the number is the same.
	checkDeep(t, 0, push(0), push(0), and(2), push(9), calc("+"))
}

// P14.3: each place is come to with as many, from wherever.
func TestDeepOfManyWays(t *testing.T) {
	checkDeep(t, 1, push(0), and(5), push(1), or(5), push(2))
	checkDeep(t, 1, push(0), and(3), push(1), or(5), push(2))
	checkDeep(t, 2, push(0), and(7), push(1), push(1), or(6), push(2), calc("+"))
	checkDeep(t, 0, push(0), and(6), push(1), push(1), or(6), push(2), calc("+"))
	checkDeep(t, 0, push(0), and(6), push(1), push(1), or(7), push(2), calc("+"))
	checkDeep(t, 0, push(0), push(0), and(4), push(1))
	checkDeep(t, 0, push(0), push(0), and(5), and(5), push(1))
}

// P14.3: at the end there is one.
func TestDeepEnd(t *testing.T) {
	checkDeep(t, 0)
	checkDeep(t, 0, push(5), push(6))
	checkDeep(t, 0, push(5), push(6), push(7), calc("+"))
	checkDeep(t, 0, push(5), push(6), and(4), push(7))
	if got, ok := code.Deep([]code.Inst{}); got != 0 || ok {
		t.Errorf("a code of nothing: %d, %v", got, ok)
	}
}

// P14.2, P14.3: all codes of up to four instructions, out of each kind, To all places and beside.
func TestAllShortCodes(t *testing.T) {
	for n := range 5 {
		few := append(choices(-1, n+1), push(0), push(1), load("b", "x"), load("c", "x"), neg(), not(), calc("-"), calc("&&"), code.Inst{Op: 7})
		eachCode(n, few, func(l []code.Inst) { checkModel(t, l, binds()) })
	}
}

// P14.2, P14.3: all codes of five instructions of fewer kinds.
func TestAllCodesOfFive(t *testing.T) {
	few := append(choices(2, 5), push(0), push(3), calc("-"), not())
	eachCode(5, few, func(l []code.Inst) { checkModel(t, l, nil) })
}

// P14.2, P14.3: codes of predicates with one thing in them that is turned.
func TestTurnedCodes(t *testing.T) {
	c := chance(3)
	right, wrong := 0, 0
	for range 20000 {
		l, _ := code.Of(c.truth(3 + c.below(40)))
		at := c.below(len(l))
		switch c.below(5) {
		case 0:
			l[at].Op = c.below(9) - 1
		case 1:
			l[at].To = c.below(len(l)+4) - 2
		case 2:
			l[at].N = int64(c.below(3) - 1)
		case 3:
			l = slices.Delete(l, at, at+1)
		case 4:
			l = slices.Insert(l, at, code.Inst{Op: c.below(7), N: 1, Var: "a", Field: "x", Calc: "+", To: at + 1 + c.below(len(l))})
		}
		checkModel(t, l, binds())
		if _, ok := code.Deep(l); ok {
			right++
		} else {
			wrong++
		}
	}
	if right < 1000 || wrong < 1000 {
		t.Errorf("%d were right, %d wrong", right, wrong)
	}
}

// P14.3, P14.4: where Deep tells true, Run is not bad by its stack: with numbers that are not bad it is not bad.
func TestDeepIsSafe(t *testing.T) {
	b := []value.Bind{{Var: "a", Fields: []string{"x"}, V: []int64{2}}}
	few := append(choices(1, 5), push(0), push(1), load("a", "x"), calc("+"), calc("<"), not())
	right := 0
	eachCode(4, few, func(l []code.Inst) {
		if _, ok := code.Deep(l); !ok {
			return
		}
		right++
		if _, ok := code.Run(l, b); !ok {
			t.Errorf("Run(%v) is bad", l)
		}
	})
	if right == 0 {
		t.Error("none was right")
	}
}

// P14.3: each field is asked, in each place.
func TestSame(t *testing.T) {
	one := code.Inst{Op: 4, N: 5, Var: "a", Field: "x", Calc: "+", To: 6}
	others := []code.Inst{
		{Op: 5, N: 5, Var: "a", Field: "x", Calc: "+", To: 6}, {Op: 4, N: -5, Var: "a", Field: "x", Calc: "+", To: 6},
		{Op: 4, N: 5, Var: "b", Field: "x", Calc: "+", To: 6}, {Op: 4, N: 5, Var: "a", Field: "y", Calc: "+", To: 6},
		{Op: 4, N: 5, Var: "a", Field: "x", Calc: "-", To: 6}, {Op: 4, N: 5, Var: "a", Field: "x", Calc: "+", To: 7},
		{Op: 4, N: 5, Var: "x", Field: "a", Calc: "+", To: 6}, {},
	}
	l := []code.Inst{one, push(1), one}
	if !code.Same(l, slices.Clone(l)) {
		t.Error("the same is not")
	}
	for at := range l {
		for _, other := range others {
			turned := slices.Clone(l)
			turned[at] = other
			if code.Same(l, turned) || code.Same(turned, l) {
				t.Errorf("Same(%v, %v)", l, turned)
			}
		}
	}
	for n := range 3 {
		if code.Same(l, l[:n]) || code.Same(l[:n], l) {
			t.Errorf("the same as %d of it", n)
		}
	}
	if code.Same(l, []code.Inst{push(1), one, one}) || code.Same([]code.Inst{{}}, nil) {
		t.Error("the same in another order, or as nothing")
	}
}

// P14.3, P5: a list of nothing is nil or empty.
func TestSameOfNothing(t *testing.T) {
	if !code.Same(nil, nil) || !code.Same(nil, []code.Inst{}) || !code.Same([]code.Inst{}, nil) {
		t.Error("nothing is not the same")
	}
}
