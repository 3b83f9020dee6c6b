package code_test

import (
	"math"
	"slices"
	"testing"

	"jettison/api"
	"jettison/code"
	"jettison/expr"
	"jettison/value"
)

const (
	lowest  = math.MinInt64
	highest = math.MaxInt64
)

func num(n int64) expr.Expr {
	return expr.Expr{Kind: expr.Num, N: n}
}

func ref(name, field string) expr.Expr {
	return expr.Expr{Kind: expr.Ref, Var: name, Field: field}
}

func unary(op string, kid expr.Expr) expr.Expr {
	return expr.Expr{Kind: expr.Unary, Op: op, Kids: []expr.Expr{kid}}
}

func binary(op string, first, second expr.Expr) expr.Expr {
	return expr.Expr{Kind: expr.Binary, Op: op, Kids: []expr.Expr{first, second}}
}

func yes() expr.Expr {
	return binary("==", num(1), num(1))
}

func no() expr.Expr {
	return binary("==", num(1), num(2))
}

// badTruth: a right one, that is bad.
func badTruth() expr.Expr {
	return binary("==", binary("/", num(1), num(0)), num(1))
}

func push(n int64) code.Inst {
	return code.Inst{Op: 0, N: n}
}

func load(name, field string) code.Inst {
	return code.Inst{Op: 1, Var: name, Field: field}
}

func neg() code.Inst {
	return code.Inst{Op: 2}
}

func not() code.Inst {
	return code.Inst{Op: 3}
}

func calc(op string) code.Inst {
	return code.Inst{Op: 4, Calc: op}
}

func and(to int) code.Inst {
	return code.Inst{Op: 5, To: to}
}

func or(to int) code.Inst {
	return code.Inst{Op: 6, To: to}
}

func sums() []string {
	return []string{"+", "-", "*", "/", "%"}
}

func comparisons() []string {
	return []string{"==", "!=", "<", "<=", ">", ">="}
}

// noOps: texts that are no Op of a Calc, `&&` and `||` among them.
func noOps() []string {
	return []string{"", "&&", "||", "!", "=", "?", "&", "|", "===", "=<", "=>", "<>", "<<", "++", "--", "**", "//", " +", "+ ", "+\x00",
		"-0", "a", "0", "\uff0b", "\u2212", "\xff", "WITHIN"}
}

// binds: a.x is 3, a.y -7, b.x the lowest; of a.z there is no number, of c nothing at all.
func binds() []value.Bind {
	return []value.Bind{
		{Var: "a", Fields: []string{"x", "c"}, V: []int64{99, 98}},
		{Var: "b", Fields: []string{"x"}, V: []int64{lowest}},
		{Var: "a", Fields: []string{"x", "y", "z"}, V: []int64{3, -7}},
	}
}

// typedTrees: all Exprs of each type, with these leaves, by how many Exprs they are of, up to n.
func typedTrees(n int, leaves []expr.Expr) (numbers, truths [][]expr.Expr) {
	numbers, truths = [][]expr.Expr{nil, leaves}, [][]expr.Expr{nil, nil}
	for size := 2; size <= n; size++ {
		var numbersHere, truthsHere []expr.Expr
		for _, kid := range numbers[size-1] {
			numbersHere = append(numbersHere, unary("-", kid))
		}
		for _, kid := range truths[size-1] {
			truthsHere = append(truthsHere, unary("!", kid))
		}
		for ahead := 1; ahead < size-1; ahead++ {
			behind := size - 1 - ahead
			numbersHere = append(numbersHere, pairs(sums(), numbers[ahead], numbers[behind])...)
			truthsHere = append(truthsHere, pairs(comparisons(), numbers[ahead], numbers[behind])...)
			truthsHere = append(truthsHere, pairs([]string{"&&", "||"}, truths[ahead], truths[behind])...)
		}
		numbers, truths = append(numbers, numbersHere), append(truths, truthsHere)
	}
	return numbers, truths
}

func pairs(ops []string, firsts, seconds []expr.Expr) []expr.Expr {
	var l []expr.Expr
	for _, op := range ops {
		for _, first := range firsts {
			for _, second := range seconds {
				l = append(l, binary(op, first, second))
			}
		}
	}
	return l
}

// smallTruths: all predicates of up to six Exprs, and those of three with up to two of `&&`, `||`, `!` above each.
func smallTruths() []expr.Expr {
	_, bySize := typedTrees(6, []expr.Expr{num(0), num(highest), ref("a", "y"), ref("c", "x")})
	told := slices.Concat(bySize...)
	few := []expr.Expr{yes(), no(), badTruth()}
	for range 2 {
		here := slices.Clone(few)
		for _, kid := range few {
			here = append(here, unary("!", kid))
		}
		few = append(here, pairs([]string{"&&", "||"}, few, few)...)
	}
	return append(told, few...)
}

// chance: numbers that are the same in each run, and seem to be of no order.
type chance uint64

func (c *chance) below(n int) int {
	*c = *c*6364136223846793005 + 1442695040888963407
	return int(uint64(*c) >> 33 % uint64(n))
}

// truth, number: some right Expr of that type, of at most so many Exprs, three at least (one, of a number).
func (c *chance) truth(most int) expr.Expr {
	if most >= 7 && c.below(10) < 6 {
		ahead := 3 + c.below(most-6)
		return binary([]string{"&&", "||"}[c.below(2)], c.truth(ahead), c.truth(most-1-ahead))
	}
	if most >= 4 && c.below(4) == 0 {
		return unary("!", c.truth(most-1))
	}
	ahead := 1 + c.below(most-2)
	return binary(comparisons()[c.below(6)], c.number(ahead), c.number(most-1-ahead))
}

func (c *chance) number(most int) expr.Expr {
	if most >= 3 && c.below(3) != 0 {
		ahead := 1 + c.below(most-2)
		return binary(sums()[c.below(5)], c.number(ahead), c.number(most-1-ahead))
	}
	if most >= 2 && c.below(3) == 0 {
		return unary("-", c.number(most-1))
	}
	leaves := []expr.Expr{num(0), num(1), num(2), num(7), num(1 << 32), num(highest), ref("a", "x"), ref("a", "y"), ref("b", "x")}
	if c.below(30) == 0 {
		return ref("c", "x")
	}
	return leaves[c.below(len(leaves))]
}

// expectedCode: by the chapter's words alone, where the first instruction has this place.
func expectedCode(e expr.Expr, place int) []code.Inst {
	switch e.Kind {
	case expr.Num:
		return []code.Inst{push(e.N)}
	case expr.Ref:
		return []code.Inst{load(e.Var, e.Field)}
	case expr.Unary:
		last := not()
		if e.Op == "-" {
			last = neg()
		}
		return append(expectedCode(e.Kids[0], place), last)
	}
	first := expectedCode(e.Kids[0], place)
	if e.Op != "&&" && e.Op != "||" {
		return append(append(first, expectedCode(e.Kids[1], place+len(first))...), calc(e.Op))
	}
	second := expectedCode(e.Kids[1], place+len(first)+1)
	choice := and(place + len(first) + 1 + len(second))
	if e.Op == "||" {
		choice.Op = code.Or
	}
	return append(append(first, choice), second...)
}

// expectedCalc: what layer 8 tells of a Binary of two that are bound.
func expectedCalc(op string, a, b int64) (int64, bool) {
	l := []value.Bind{{Var: "n", Fields: []string{"a", "b"}, V: []int64{a, b}}}
	return value.Eval(binary(op, ref("n", "a"), ref("n", "b")), l)
}

// expectedRun: by the chapter's words alone, from this place on, with this stack, which is not turned.
func expectedRun(l []code.Inst, at int, stack []int64, b []value.Bind) (int64, bool) {
	if at >= len(l) {
		if len(stack) == 1 {
			return stack[0], true
		}
		return 0, false
	}
	i := l[at]
	takes := map[int]int{2: 1, 3: 1, 4: 2, 5: 1, 6: 1}[i.Op]
	if i.Op < 0 || i.Op > 6 || len(stack) < takes || i.Op >= 5 && i.To <= at {
		return 0, false
	}
	rest, top := slices.Clone(stack[:len(stack)-takes]), stack[len(stack)-takes:]
	if i.Op == 5 && top[0] == 0 || i.Op == 6 && top[0] != 0 {
		return expectedRun(l, i.To, stack, b)
	}
	n, ok := int64(0), true
	switch i.Op {
	case 0:
		n = i.N
	case 1:
		n, ok = value.Look(b, i.Var, i.Field)
	case 2:
		n, ok = value.Sub(0, top[0])
	case 3:
		n = int64(uint64(1) - uint64(top[0]))
	case 4:
		n, ok = expectedCalc(i.Calc, top[0], top[1])
	}
	if !ok {
		return 0, false
	}
	if i.Op < 5 {
		rest = append(rest, n)
	}
	return expectedRun(l, at+1, rest, b)
}

// state: a place, and how many are on the stack there.
type state struct {
	at, height int
}

// expectedDeep: by the chapter's words alone: all states that some way comes to, one by one.
func expectedDeep(l []code.Inst) (int, bool) {
	most, heights, seen, work := 0, map[int]int{}, map[state]bool{}, []state{{}}
	for len(work) > 0 {
		s := work[0]
		work = work[1:]
		if seen[s] {
			continue
		}
		seen[s] = true
		if other, ok := heights[s.at]; ok && other != s.height {
			return 0, false
		}
		heights[s.at] = s.height
		most = max(most, s.height)
		if s.at == len(l) {
			if s.height != 1 {
				return 0, false
			}
			continue
		}
		next, ok := expectedNext(l, s)
		if !ok {
			return 0, false
		}
		work = append(work, next...)
	}
	return most, true
}

// expectedNext: where it may go on from there, if the instruction may stand there.
func expectedNext(l []code.Inst, s state) ([]state, bool) {
	i := l[s.at]
	switch i.Op {
	case 0, 1:
		return []state{{s.at + 1, s.height + 1}}, true
	case 2, 3:
		return []state{{s.at + 1, s.height}}, s.height >= 1
	case 4:
		return []state{{s.at + 1, s.height - 1}}, s.height >= 2
	case 5, 6:
		return []state{{s.at + 1, s.height - 1}, {i.To, s.height}}, s.height >= 1 && i.To > s.at && i.To <= len(l)
	}
	return nil, false
}

func checkOf(t *testing.T, e expr.Expr, want ...code.Inst) {
	t.Helper()
	if got, errno := code.Of(e); errno != api.OK || !slices.Equal(got, want) {
		t.Errorf("Of(%s): %v, %v; want %v", expr.Put(e), got, errno, want)
	}
}

func checkRun(t *testing.T, b []value.Bind, want int64, wantOK bool, l ...code.Inst) {
	t.Helper()
	if got, ok := code.Run(l, b); got != want || ok != wantOK {
		t.Errorf("Run(%v): %d, %v; want %d, %v", l, got, ok, want, wantOK)
	}
	if got := code.Holds(l, b); got != (wantOK && want == 1) {
		t.Errorf("Holds(%v): %v, where Run tells %d, %v", l, got, want, wantOK)
	}
}

func checkBad(t *testing.T, b []value.Bind, l ...code.Inst) {
	t.Helper()
	checkRun(t, b, 0, false, l...)
}

func checkDeep(t *testing.T, want int, l ...code.Inst) {
	t.Helper()
	if got, ok := code.Deep(l); got != want || ok != (want > 0) {
		t.Errorf("Deep(%v): %d, %v; want %d", l, got, ok, want)
	}
}

// checkModel asks all of a code that the models tell.
func checkModel(t *testing.T, l []code.Inst, b []value.Bind) {
	t.Helper()
	n, ok := expectedRun(l, 0, nil, b)
	checkRun(t, b, n, ok, l...)
	most, _ := expectedDeep(l)
	checkDeep(t, most, l...)
}

// eachCode tells each code of just n out of these instructions.
func eachCode(n int, few []code.Inst, tell func([]code.Inst)) {
	l := make([]code.Inst, n)
	var fill func(at int)
	fill = func(at int) {
		if at == n {
			tell(l)
			return
		}
		for _, i := range few {
			l[at] = i
			fill(at + 1)
		}
	}
	fill(0)
}

// choices: an And and an Or to each place from low to high.
func choices(low, high int) []code.Inst {
	var l []code.Inst
	for to := low; to <= high; to++ {
		l = append(l, and(to), or(to))
	}
	return l
}
