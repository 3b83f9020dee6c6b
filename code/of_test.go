package code_test

import (
	"slices"
	"testing"

	"jettison/api"
	"jettison/code"
	"jettison/expr"
)

func checkOfError(t *testing.T, e expr.Expr, want api.Errno) {
	t.Helper()
	if got, errno := code.Of(e); errno != want || len(got) != 0 {
		t.Errorf("Of(%#v): %v, %v; want nothing, %v", e, got, errno, want)
	}
}

// conjunction: a predicate of n Exprs, three at least: `&&` of comparisons, the last one made as large as n asks for.
func conjunction(n int) expr.Expr {
	if n < 10 {
		last := num(7)
		for range n - 3 {
			last = unary("-", last)
		}
		return binary("<", last, num(1))
	}
	return binary("&&", yes(), conjunction(n-4))
}

// nots: a predicate of n Exprs, `!` but for the last three.
func nots(n int) expr.Expr {
	e := yes()
	for range n - 3 {
		e = unary("!", e)
	}
	return e
}

// sum: a number of n Exprs, n odd.
func sum(n int) expr.Expr {
	e := num(0)
	for range n / 2 {
		e = binary("+", e, num(1))
	}
	return e
}

// P14.1: the numbers of instructions.
func TestOps(t *testing.T) {
	got := []int{code.Push, code.Load, code.Neg, code.Not, code.Calc, code.And, code.Or}
	if !slices.Equal(got, []int{0, 1, 2, 3, 4, 5, 6}) {
		t.Error(got)
	}
}

// P14.1: the chapter's example, and each kind of Expr.
func TestOf(t *testing.T) {
	checkOf(t, binary("<", num(1), num(2)), push(1), push(2), calc("<"))
	checkOf(t, binary("==", num(0), num(highest)), push(0), push(highest), calc("=="))
	checkOf(t, binary(">", ref("a", "x"), ref("b", "y")), load("a", "x"), load("b", "y"), calc(">"))
	checkOf(t, binary("!=", unary("-", ref("a", "x")), num(3)), load("a", "x"), neg(), push(3), calc("!="))
	checkOf(t, unary("!", yes()), push(1), push(1), calc("=="), not())
	checkOf(t, unary("!", unary("!", yes())), push(1), push(1), calc("=="), not(), not())
	checkOf(t, binary("<", unary("-", unary("-", num(5))), num(6)), push(5), neg(), neg(), push(6), calc("<"))
}

// P14.1: each operation of two numbers is a Calc of its Op; the first Kid's code stands ahead.
func TestOfCalcs(t *testing.T) {
	for _, op := range comparisons() {
		checkOf(t, binary(op, num(1), num(2)), push(1), push(2), calc(op))
	}
	for _, op := range sums() {
		checkOf(t, binary("<", binary(op, num(1), num(2)), num(3)), push(1), push(2), calc(op), push(3), calc("<"))
		checkOf(t, binary("<", num(3), binary(op, num(1), num(2))), push(3), push(1), push(2), calc(op), calc("<"))
	}
	checkOf(t, binary("<", binary("-", num(1), unary("-", num(2))), num(3)), push(1), push(2), neg(), calc("-"), push(3), calc("<"))
}

// P14.1: an And and an Or go on behind the second Kid's code, in all of the code, at its end too.
func TestOfAndOr(t *testing.T) {
	checkOf(t, binary("&&", yes(), no()), push(1), push(1), calc("=="), and(7), push(1), push(2), calc("=="))
	checkOf(t, binary("||", yes(), no()), push(1), push(1), calc("=="), or(7), push(1), push(2), calc("=="))
	checkOf(t, unary("!", binary("&&", yes(), no())), push(1), push(1), calc("=="), and(7), push(1), push(2), calc("=="), not())
	checkOf(t, binary("&&", unary("!", yes()), unary("!", no())), push(1), push(1), calc("=="), not(), and(9), push(1), push(2), calc("=="), not())
	checkOf(t, binary("||", binary("&&", yes(), no()), yes()),
		push(1), push(1), calc("=="), and(7), push(1), push(2), calc("=="), or(11), push(1), push(1), calc("=="))
	checkOf(t, binary("||", yes(), binary("&&", no(), yes())),
		push(1), push(1), calc("=="), or(11), push(1), push(2), calc("=="), and(11), push(1), push(1), calc("=="))
	checkOf(t, binary("&&", binary("||", yes(), no()), binary("||", no(), yes())),
		push(1), push(1), calc("=="), or(7), push(1), push(2), calc("=="), and(15),
		push(1), push(2), calc("=="), or(15), push(1), push(1), calc("=="))
}

// P14.1, P14.4: all small predicates, against the model; none is longer than the predicate is large.
func TestOfSmallPredicates(t *testing.T) {
	for _, e := range smallTruths() {
		checkOf(t, e, expectedCode(e, 0)...)
		if l, _ := code.Of(e); len(l) > expr.Size(e) {
			t.Errorf("Of(%s): %d instructions of %d Exprs", expr.Put(e), len(l), expr.Size(e))
		}
	}
}

// P14.1: of what is no Truth there is no code.
func TestOfNoTruth(t *testing.T) {
	numbers := []expr.Expr{num(0), num(1), ref("a", "x"), unary("-", num(1)), binary("+", num(1), num(2)), sum(255)}
	for _, e := range numbers {
		checkOfError(t, e, api.ErrType)
	}
	mixed := []expr.Expr{
		unary("!", num(1)), unary("-", yes()), binary("&&", num(1), num(1)), binary("||", num(0), yes()), binary("&&", yes(), num(1)),
		binary("==", yes(), yes()), binary("<", no(), num(1)), binary("+", yes(), num(1)), binary("%", num(1), no()),
	}
	for _, e := range mixed {
		checkOfError(t, e, api.ErrType)
		checkOfError(t, unary("!", e), api.ErrType)
		checkOfError(t, binary("||", yes(), e), api.ErrType)
	}
}

// P14.1: what is not right is of no type, in whichever place it stands.
func TestOfWhatIsNotRight(t *testing.T) {
	wrong := []expr.Expr{
		{Kind: -1}, {Kind: 4}, {Kind: highest}, {Kind: lowest}, num(-1), num(lowest), {Kind: expr.Num, Op: "+"}, {Kind: expr.Num, Var: "a"},
		{Kind: expr.Ref}, {Kind: expr.Ref, Var: "a"}, {Kind: expr.Ref, Var: "a", Field: "x", N: 1}, ref("WITHIN", "x"), ref("a", "9"),
		{Kind: expr.Unary}, {Kind: expr.Unary, Op: "!"}, {Kind: expr.Unary, Op: "!", Kids: []expr.Expr{yes(), no()}}, unary("+", num(1)),
		{Kind: expr.Binary}, {Kind: expr.Binary, Op: "<"}, {Kind: expr.Binary, Op: "<", Kids: []expr.Expr{num(1)}}, binary("", num(1), num(2)),
		{Kind: expr.Binary, Op: "&&", Kids: []expr.Expr{yes()}}, {Kind: expr.Binary, Op: "||", Kids: []expr.Expr{yes(), no(), no()}},
		{Kind: expr.Binary, Op: "<", N: 1, Kids: []expr.Expr{num(1), num(2)}}, binary("=", num(1), num(2)), binary("!", yes(), no()),
	}
	for _, e := range wrong {
		checkOfError(t, e, api.ErrType)
		checkOfError(t, unary("!", e), api.ErrType)
		checkOfError(t, binary("<", e, num(1)), api.ErrType)
		checkOfError(t, binary("<", num(1), unary("-", e)), api.ErrType)
		checkOfError(t, binary("||", yes(), e), api.ErrType)
		checkOfError(t, binary("&&", e, no()), api.ErrType)
	}
}

// P14.1: as large as a predicate may be, and one larger, of each shape.
func TestOfLimit(t *testing.T) {
	for n := api.MaxCode - 6; n <= api.MaxCode+6; n++ {
		for _, e := range []expr.Expr{conjunction(n), nots(n), binary("||", conjunction(n/2), nots(n-1-n/2))} {
			if expr.Size(e) != n {
				t.Fatalf("a predicate of %d, not of %d", expr.Size(e), n)
			}
			if n > api.MaxCode {
				checkOfError(t, e, api.ErrLimit)
				continue
			}
			checkOf(t, e, expectedCode(e, 0)...)
			if l, _ := code.Of(e); len(l) != n {
				t.Errorf("%d instructions of %d Exprs", len(l), n)
			}
		}
	}
}

// P14.1, P2: of what is both too large and no Truth the first error is told.
func TestOfOrderOfErrors(t *testing.T) {
	checkOfError(t, sum(257), api.ErrType)
	checkOfError(t, unary("-", nots(300)), api.ErrType)
	checkOfError(t, binary("&&", nots(300), num(1)), api.ErrType)
	checkOfError(t, binary("&&", nots(300), binary("<", num(1), num(-1))), api.ErrType)
	checkOfError(t, binary("<", sum(257), num(1)), api.ErrLimit)
}

// P1: trees as deep as they may be.
func TestOfDeepTrees(t *testing.T) {
	checkOfError(t, nots(100000), api.ErrLimit)
	e := num(1)
	for range 99000 {
		e = unary("-", e)
	}
	checkOfError(t, e, api.ErrType)
	checkOfError(t, binary("<", e, num(1)), api.ErrLimit)
	left, right := yes(), yes()
	for range 49000 {
		left, right = binary("||", left, no()), binary("||", no(), right)
	}
	checkOfError(t, left, api.ErrLimit)
	checkOfError(t, right, api.ErrLimit)
}

// P3: each answer is the caller's own, spare room too.
func TestOfIsNewMemory(t *testing.T) {
	e := binary("&&", unary("!", yes()), no())
	first, _ := code.Of(e)
	second, _ := code.Of(e)
	for at := range first[:cap(first)] {
		first[:cap(first)][at] = push(77)
	}
	for at := range second[len(second):cap(second)] {
		second[len(second):cap(second)][at] = push(78)
	}
	if !slices.Equal(second, expectedCode(e, 0)) {
		t.Error("two answers stand at one place")
	}
	checkOf(t, e, expectedCode(e, 0)...)
}

// P3: nothing that is handed in is written into, nor what stands behind it.
func TestOfWritesNothing(t *testing.T) {
	e := binary("||", binary("<", ref("a", "x"), unary("-", num(2))), unary("!", yes()))
	kids := append(make([]expr.Expr, 0, 4), e.Kids...)
	behind := append(kids, num(77), num(78))
	e.Kids = kids
	code.Of(e)
	want := binary("||", binary("<", ref("a", "x"), unary("-", num(2))), unary("!", yes()))
	if !expr.Same(e, want) || !expr.Same(behind[2], num(77)) || !expr.Same(behind[3], num(78)) {
		t.Error("the Expr was written into")
	}
}
