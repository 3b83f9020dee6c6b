package expr_test

import (
	"math"
	"slices"
	"strconv"
	"strings"
	"testing"

	"jettison/expr"
)

func num(n int64) expr.Expr {
	return expr.Expr{Kind: expr.Num, N: n}
}

func ref(name, field string) expr.Expr {
	return expr.Expr{Kind: expr.Ref, Var: name, Field: field}
}

func unary(op string, kid expr.Expr) expr.Expr {
	return expr.Expr{Kind: expr.Unary, Op: op, Kids: []expr.Expr{kid}}
}

func binary(op string, first, second expr.Expr) expr.Expr {
	return expr.Expr{Kind: expr.Binary, Op: op, Kids: []expr.Expr{first, second}}
}

// opsByLevel: as the chapter writes them, those of level 1 ahead.
func opsByLevel() [][]string {
	return [][]string{{"||"}, {"&&"}, {"==", "!="}, {"<", "<=", ">", ">="}, {"+", "-"}, {"*", "/", "%"}}
}

func ops() []string {
	return slices.Concat(opsByLevel()...)
}

// level: 0 of what is no operation.
func level(op string) int {
	return 1 + slices.IndexFunc(opsByLevel(), func(l []string) bool { return slices.Contains(l, op) })
}

// noOps: texts that are near to operations, and are none.
func noOps() []string {
	return []string{"", "!", "=", "|", "&", "=!", "=<", "=>", "===", "!==", "<>", "<<", ">>", "**", "//", "++", "--", "|||", "&&&",
		" +", "+ ", "+\x00", " ", "a", "0", ".", ",", ";", "(", ")", "^", "~", "\uff0b", "\u2212", "\u00d7", "\xff", "AND", "OR", "MOD", "WITHIN", "BY"}
}

// names: texts that are names, and texts that are none.
func names() []string {
	return []string{"a", "x", "Z", "_", "a9", "é", "日本", "\ufffd", "within", "By", strings.Repeat("z", 24), strings.Repeat("é", 12)}
}

func noNames() []string {
	return []string{"", "9", "9a", "a b", "a.x", "a-b", " a", "a ", "\x00", "a\n", "WITHIN", "BY", "\xff", "a\xff", "\xed\xa0\x80",
		strings.Repeat("z", 25), strings.Repeat("é", 13)}
}

// rightTrees: all right ones of just n Exprs, with these leaves.
func rightTrees(n int) []expr.Expr {
	bySize := [][]expr.Expr{nil, {num(0), num(12), ref("a", "x")}}
	for size := 2; size <= n; size++ {
		var l []expr.Expr
		for _, kid := range bySize[size-1] {
			l = append(l, unary("-", kid), unary("!", kid))
		}
		for ahead := 1; ahead < size-1; ahead++ {
			for _, op := range ops() {
				for _, first := range bySize[ahead] {
					for _, second := range bySize[size-1-ahead] {
						l = append(l, binary(op, first, second))
					}
				}
			}
		}
		bySize = append(bySize, l)
	}
	return bySize[n]
}

func upTo(n int) []expr.Expr {
	var l []expr.Expr
	for size := 1; size <= n; size++ {
		l = append(l, rightTrees(size)...)
	}
	return l
}

// places: trees in which e stands at each place that a Kid may have, alone and deeper.
func places(e expr.Expr) []expr.Expr {
	l := []expr.Expr{unary("-", e), unary("!", e), unary("-", unary("!", e))}
	for _, op := range []string{"+", "<", "&&"} {
		l = append(l, binary(op, e, num(1)), binary(op, num(1), e), binary(op, e, e))
	}
	return append(l, binary("-", binary("*", num(1), unary("-", e)), num(2)), binary("-", num(2), binary("*", num(1), unary("-", e))))
}

// expectedRight, expectedType, expectedPut: by the chapter's words alone.
func expectedRight(e expr.Expr) bool {
	noOp, noN, noVar, noField := e.Op == "", e.N == 0, e.Var == "", e.Field == ""
	for _, kid := range e.Kids {
		if !expectedRight(kid) {
			return false
		}
	}
	switch len(e.Kids) {
	case 0:
		if e.Kind == 0 {
			return e.N >= 0 && noOp && noVar && noField
		}
		return e.Kind == 1 && slices.Contains(names(), e.Var) && slices.Contains(names(), e.Field) && noOp && noN
	case 1:
		return e.Kind == 2 && (e.Op == "-" || e.Op == "!") && noN && noVar && noField
	case 2:
		return e.Kind == 3 && slices.Contains(ops(), e.Op) && noN && noVar && noField
	}
	return false
}

func expectedType(e expr.Expr) int {
	if !expectedRight(e) {
		return 0
	}
	if len(e.Kids) == 0 {
		return 1
	}
	kind := expectedType(e.Kids[0])
	if len(e.Kids) == 2 && expectedType(e.Kids[1]) != kind {
		return 0
	}
	switch {
	case kind == 1 && slices.Contains([]string{"+", "-", "*", "/", "%"}, e.Op):
		return 1
	case kind == 1 && slices.Contains([]string{"==", "!=", "<", "<=", ">", ">="}, e.Op):
		return 2
	case kind == 2 && slices.Contains([]string{"!", "&&", "||"}, e.Op):
		return 2
	}
	return 0
}

func expectedPut(e expr.Expr) string {
	var kids []string
	for i, kid := range e.Kids {
		s := expectedPut(kid)
		if len(kid.Kids) == 2 && (len(e.Kids) == 1 || level(kid.Op) < level(e.Op) || i == 1 && level(kid.Op) == level(e.Op)) {
			s = "(" + s + ")"
		}
		kids = append(kids, s)
	}
	switch e.Kind {
	case 0:
		return strconv.Itoa(int(e.N))
	case 1:
		return e.Var + "." + e.Field
	case 2:
		return e.Op + kids[0]
	}
	return kids[0] + " " + e.Op + " " + kids[1]
}

// reader reads a text as chapter 10 says of expressions: greater levels bind first, of one level the left ones do.
type reader struct {
	rest string
}

func (r *reader) takes(s string) bool {
	rest, ok := strings.CutPrefix(r.rest, s)
	if ok {
		r.rest = rest
	}
	return ok
}

func (r *reader) above(least int) expr.Expr {
	e := r.operand()
	for {
		op, _, _ := strings.Cut(strings.TrimPrefix(r.rest, " "), " ")
		if !strings.HasPrefix(r.rest, " ") || level(op) < least || !r.takes(" "+op+" ") {
			return e
		}
		e = binary(op, e, r.above(level(op)+1))
	}
}

func (r *reader) operand() expr.Expr {
	for _, op := range []string{"-", "!"} {
		if r.takes(op) {
			return unary(op, r.operand())
		}
	}
	if r.takes("(") {
		e := r.above(1)
		if !r.takes(")") {
			r.rest = "no bracket ahead of " + r.rest
		}
		return e
	}
	end := strings.IndexAny(r.rest+" ", " )")
	one := r.rest[:end]
	r.rest = r.rest[end:]
	if name, field, ok := strings.Cut(one, "."); ok {
		return ref(name, field)
	}
	n, _ := strconv.ParseInt(one, 10, 64)
	return num(n)
}

// deepCopy: to see later whether something was written; spare room is copied too.
func deepCopy(e expr.Expr) expr.Expr {
	kids := slices.Clone(e.Kids[:cap(e.Kids)])
	for i := range kids {
		kids[i] = deepCopy(kids[i])
	}
	e.Kids = kids[:len(e.Kids)]
	return e
}

// equal is Same by the test's own words.
func equal(a, b expr.Expr) bool {
	if len(a.Kids) != len(b.Kids) {
		return false
	}
	for i := range a.Kids {
		if !equal(a.Kids[i], b.Kids[i]) {
			return false
		}
	}
	return a.Kind == b.Kind && a.Op == b.Op && a.N == b.N && a.Var == b.Var && a.Field == b.Field
}

func checkRight(t *testing.T, e expr.Expr, want bool) {
	t.Helper()
	if got := expr.Right(e); got != want {
		t.Errorf("Right(%+v) = %t; want %t", e, got, want)
	}
}

func checkSame(t *testing.T, a, b expr.Expr, want bool) {
	t.Helper()
	if got := expr.Same(a, b); got != want {
		t.Errorf("Same(%+v, %+v) = %t; want %t", a, b, got, want)
	}
	if got := expr.Same(b, a); got != want {
		t.Errorf("Same(%+v, %+v) = %t; want %t", b, a, got, want)
	}
}

func checkType(t *testing.T, e expr.Expr, want int) {
	t.Helper()
	if got := expr.Type(e); got != want {
		t.Errorf("Type(%+v) = %d; want %d", e, got, want)
	}
}

func checkPut(t *testing.T, e expr.Expr, want string) {
	t.Helper()
	if got := expr.Put(e); got != want {
		t.Errorf("Put(%+v) = %q; want %q", e, got, want)
	}
}

func checkVars(t *testing.T, e expr.Expr, want ...string) {
	t.Helper()
	if got := expr.Vars(e); !slices.Equal(got, want) {
		t.Errorf("Vars(%+v) = %q; want %q", e, got, want)
	}
}

func checkSize(t *testing.T, e expr.Expr, want int) {
	t.Helper()
	if got := expr.Size(e); got != want {
		t.Errorf("Size(%+v) = %d; want %d", e, got, want)
	}
}

// P7.1, P7.3: the numbers of kinds and of types.
func TestKinds(t *testing.T) {
	if expr.Num != 0 || expr.Ref != 1 || expr.Unary != 2 || expr.Binary != 3 {
		t.Error(expr.Num, expr.Ref, expr.Unary, expr.Binary)
	}
	if expr.None != 0 || expr.Number != 1 || expr.Truth != 2 {
		t.Error(expr.None, expr.Number, expr.Truth)
	}
}

// P7.1: all of them, in their order.
func TestOps(t *testing.T) {
	want := strings.Fields("|| && == != < <= > >= + - * / %")
	if got := expr.Ops(); !slices.Equal(got, want) || len(got) != 13 {
		t.Errorf("Ops() = %q", got)
	}
}

// P7.1, P3: each answer is the caller's own, spare room too.
func TestOpsIsNewMemory(t *testing.T) {
	first, second := expr.Ops(), expr.Ops()
	all := first[:cap(first)]
	for i := range all {
		all[i] = "written"
	}
	if !slices.Equal(second, ops()) || !slices.Equal(expr.Ops(), ops()) {
		t.Errorf("Ops() = %q, once written into", expr.Ops())
	}
	if expr.Level("+") != 5 || expr.Level("written") != 0 || !expr.Right(binary("+", num(1), num(2))) {
		t.Error("what was written is an operation")
	}
}

// P7.1: each operation, and texts that are none.
func TestLevel(t *testing.T) {
	for i, l := range opsByLevel() {
		for _, op := range l {
			if got := expr.Level(op); got != i+1 {
				t.Errorf("Level(%q) = %d; want %d", op, got, i+1)
			}
			for _, near := range []string{op + op, op + " ", " " + op, op + "\x00", op + "!", op[:1] + "x"} {
				if got := expr.Level(near); got != 0 {
					t.Errorf("Level(%q) = %d; want 0", near, got)
				}
			}
		}
	}
	for _, s := range append(noOps(), strings.Repeat("+", 1<<20)) {
		if got := expr.Level(s); got != 0 {
			t.Errorf("Level(%.40q) = %d; want 0", s, got)
		}
	}
}

// P7.1: all texts of up to two bytes.
func TestLevelOfShortTexts(t *testing.T) {
	for a := range 256 {
		for b := range 257 {
			s := string([]byte{byte(a), byte(b)})
			if b == 256 {
				s = s[:1]
			}
			if got, want := expr.Level(s), level(s); got != want {
				t.Fatalf("Level(%q) = %d; want %d", s, got, want)
			}
		}
	}
}

// P7.2: a Num from 0 on.
func TestRightNum(t *testing.T) {
	for _, n := range []int64{0, 1, 9, 1 << 32, math.MaxInt64 - 1, math.MaxInt64} {
		checkRight(t, num(n), true)
	}
	for _, n := range []int64{-1, -2, -1 << 32, math.MinInt64 + 1, math.MinInt64} {
		checkRight(t, num(n), false)
	}
	checkRight(t, expr.Expr{}, true)
	checkRight(t, expr.Expr{Kids: []expr.Expr{}}, true)
}

// P7.2: a Ref of two names.
func TestRightRef(t *testing.T) {
	for _, a := range names() {
		for _, b := range names() {
			checkRight(t, ref(a, b), true)
		}
		for _, b := range noNames() {
			checkRight(t, ref(a, b), false)
			checkRight(t, ref(b, a), false)
		}
	}
	checkRight(t, ref("", ""), false)
}

// P7.2: a Unary of two operations, and of one Kid.
func TestRightUnary(t *testing.T) {
	for _, op := range slices.Concat(ops(), noOps()) {
		checkRight(t, unary(op, num(1)), op == "-" || op == "!")
	}
	for _, op := range []string{"-", "!"} {
		for n := range 5 {
			e := expr.Expr{Kind: expr.Unary, Op: op, Kids: slices.Repeat([]expr.Expr{num(1)}, n)}
			checkRight(t, e, n == 1)
		}
		checkRight(t, unary(op, unary(op, ref("a", "x"))), true)
	}
}

// P7.2: a Binary of Ops, and of two Kids.
func TestRightBinary(t *testing.T) {
	for _, op := range slices.Concat(ops(), noOps()) {
		checkRight(t, binary(op, num(1), ref("a", "x")), slices.Contains(ops(), op))
	}
	for _, op := range ops() {
		for n := range 5 {
			e := expr.Expr{Kind: expr.Binary, Op: op, Kids: slices.Repeat([]expr.Expr{num(1)}, n)}
			checkRight(t, e, n == 2)
		}
	}
}

// P7.2: Kinds that there are not.
func TestRightOfOtherKinds(t *testing.T) {
	for _, kind := range []int{-1, 4, 5, 255, 256, math.MaxInt32, math.MaxInt, math.MinInt, math.MinInt32} {
		for _, kids := range [][]expr.Expr{nil, {num(1)}, {num(1), num(2)}} {
			for _, op := range []string{"", "-", "+"} {
				e := expr.Expr{Kind: kind, Op: op, Kids: kids}
				checkRight(t, e, false)
				checkType(t, e, expr.None)
			}
		}
		e := ref("a", "x")
		e.Kind = kind
		checkRight(t, e, false)
	}
}

// mixes: Exprs with something, or nothing, or something wrong, in each field.
func mixes() []expr.Expr {
	var l []expr.Expr
	for kind := -1; kind <= 4; kind++ {
		for _, op := range []string{"", "-", "!", "+", "x"} {
			for n := int64(-1); n <= 1; n++ {
				for _, name := range []string{"", "a", "BY"} {
					for _, field := range []string{"", "a", "9"} {
						for kids := range 4 {
							l = append(l, expr.Expr{Kind: kind, Op: op, N: n, Var: name, Field: field, Kids: slices.Repeat([]expr.Expr{num(1)}, kids)})
						}
					}
				}
			}
		}
	}
	return l
}

// P7.2, P7.3: what is not said is nothing: each field that a kind does not have, in each kind.
func TestRightOfMixes(t *testing.T) {
	right := 0
	for _, e := range mixes() {
		want := expectedRight(e)
		if want {
			right++
		}
		checkRight(t, e, want)
		checkType(t, e, expectedType(e))
	}
	// Num 0, Num 1, a Ref, two Unaries, two Binaries.
	if right != 7 {
		t.Errorf("%d of the mixes were right", right)
	}
}

// P7.2, P7.3: what is wrong makes wrong all that it stands in, at whichever place.
func TestRightOfKids(t *testing.T) {
	wrong := []expr.Expr{num(-1), {Kind: 4}, {Kind: -1}, ref("", "x"), ref("a", "BY"), ref("9", "x"), {Op: "+"}, {Var: "a"}, {Field: "x"},
		{Kids: []expr.Expr{num(1)}}, unary("+", num(1)), {Kind: expr.Unary, Op: "-"}, {Kind: expr.Binary, Op: "+", Kids: []expr.Expr{num(1)}},
		binary("!", num(1), num(2)), unary("-", num(-1)), binary("+", num(1), num(-1)), binary("+", num(-1), num(1))}
	for _, e := range wrong {
		checkRight(t, e, false)
		for _, one := range places(e) {
			checkRight(t, one, false)
			checkType(t, one, expr.None)
			for _, more := range places(one) {
				checkRight(t, more, false)
				checkType(t, more, expr.None)
			}
		}
		if t.Failed() {
			return
		}
	}
	for _, e := range []expr.Expr{num(1), ref("a", "x"), unary("-", num(1)), binary("<", num(1), num(2))} {
		for _, one := range places(e) {
			checkRight(t, one, true)
			for _, more := range places(one) {
				checkRight(t, more, true)
			}
		}
	}
}

// P7.2: a truth may stand where a number must, and the other way round: that is asked of the Type.
func TestRightAsksNoType(t *testing.T) {
	less := binary("<", num(1), num(2))
	for _, e := range []expr.Expr{unary("!", num(1)), unary("-", less), binary("+", less, less), binary("&&", num(1), less), binary("<", less, num(1))} {
		checkRight(t, e, true)
		checkType(t, e, expr.None)
	}
}

// P7.2: each field is asked, of what is right and of what is not.
func TestSame(t *testing.T) {
	e := expr.Expr{Kind: expr.Binary, Op: "+", N: 3, Var: "a", Field: "x", Kids: []expr.Expr{num(1), ref("a", "x")}}
	checkSame(t, e, e, true)
	checkSame(t, e, deepCopy(e), true)
	others := []expr.Expr{e, e, e, e, e, e, e, e, e}
	others[0].Kind = expr.Unary
	others[1].Op = "-"
	others[2].N = -3
	others[3].Var = "b"
	others[4].Field = "X"
	others[5].Kids = []expr.Expr{ref("a", "x"), num(1)}
	others[6].Kids = e.Kids[:1]
	others[7].Kids = []expr.Expr{num(1), ref("a", "x"), num(1)}
	others[8].Kids = nil
	for _, one := range others {
		checkSame(t, e, one, false)
		checkSame(t, one, one, true)
		for i, place := range places(e) {
			checkSame(t, place, places(e)[i], true)
			checkSame(t, place, places(one)[i], false)
		}
	}
	checkSame(t, ref("a", "x"), ref("x", "a"), false)
	checkSame(t, ref("ab", "c"), ref("a", "bc"), false)
	checkSame(t, num(math.MaxInt64), num(math.MinInt64), false)
	checkSame(t, num(1), num(1+1<<32), false)
	checkSame(t, expr.Expr{}, num(0), true)
}

// P7.2, P5: Kids of nothing are nil or empty.
func TestSameOfNoKids(t *testing.T) {
	checkSame(t, expr.Expr{}, expr.Expr{Kids: []expr.Expr{}}, true)
	checkSame(t, unary("-", num(1)), unary("-", expr.Expr{N: 1, Kids: make([]expr.Expr, 0, 4)}), true)
	checkSame(t, expr.Expr{}, expr.Expr{Kids: []expr.Expr{{}}}, false)
}

// P7.2: all mixes against all.
func TestSameOfMixes(t *testing.T) {
	l := mixes()
	for i, a := range l {
		for j := i % 7; j < len(l); j += 7 {
			if got := expr.Same(a, l[j]); got != (i == j) {
				t.Fatalf("Same(%+v, %+v) = %t", a, l[j], got)
			}
		}
	}
}

// P7.3: each operation, of each two types.
func TestTypeOfOperations(t *testing.T) {
	number, truth, none := binary("*", num(2), ref("a", "x")), binary("==", num(1), num(2)), unary("!", num(1))
	types := []struct {
		e    expr.Expr
		kind int
	}{{num(1), expr.Number}, {ref("a", "x"), expr.Number}, {unary("-", num(1)), expr.Number}, {number, expr.Number}, {truth, expr.Truth},
		{unary("!", truth), expr.Truth}, {binary("||", truth, truth), expr.Truth}, {none, expr.None}, {binary("+", truth, num(1)), expr.None}}
	for _, a := range types {
		checkType(t, a.e, a.kind)
		for _, op := range []string{"-", "!"} {
			takes := map[string]int{"-": expr.Number, "!": expr.Truth}[op]
			want := expr.None
			if a.kind == takes {
				want = takes
			}
			checkType(t, unary(op, a.e), want)
		}
		for _, b := range types {
			for _, op := range ops() {
				want := expr.None
				switch {
				case a.kind == expr.Number && b.kind == expr.Number && level(op) >= 5:
					want = expr.Number
				case a.kind == expr.Number && b.kind == expr.Number && level(op) >= 3:
					want = expr.Truth
				case a.kind == expr.Truth && b.kind == expr.Truth && level(op) < 3:
					want = expr.Truth
				}
				checkType(t, binary(op, a.e, b.e), want)
			}
		}
	}
}

// P7.3: a type that is None makes None all that it stands in.
func TestTypeOfKids(t *testing.T) {
	for _, none := range []expr.Expr{unary("!", num(1)), binary("&&", num(1), num(1)), num(-1), {Kind: 7}} {
		for _, one := range places(none) {
			checkType(t, one, expr.None)
			for _, more := range places(one) {
				checkType(t, more, expr.None)
			}
		}
	}
}

// P7.2 to P7.4: all right trees of a few Exprs.
func TestSmallTrees(t *testing.T) {
	for size := 1; size <= 5; size++ {
		for _, e := range rightTrees(size) {
			checkRight(t, e, true)
			checkType(t, e, expectedType(e))
			checkPut(t, e, expectedPut(e))
			checkSize(t, e, size)
			if t.Failed() {
				return
			}
		}
	}
}

// P7.4: the chapter's example, and each kind.
func TestPut(t *testing.T) {
	ax, by := ref("a", "x"), ref("b", "y")
	checkPut(t, binary("-", ax, binary("-", by, num(1))), "a.x - (b.y - 1)")
	checkPut(t, binary("-", binary("-", ax, by), num(1)), "a.x - b.y - 1")
	checkPut(t, num(0), "0")
	checkPut(t, num(10), "10")
	checkPut(t, num(math.MaxInt64), "9223372036854775807")
	checkPut(t, ax, "a.x")
	checkPut(t, ref("é", "\ufffd"), "é.\ufffd")
	checkPut(t, ref("within", strings.Repeat("z", 24)), "within."+strings.Repeat("z", 24))
	checkPut(t, unary("-", num(1)), "-1")
	checkPut(t, unary("!", ax), "!a.x")
	checkPut(t, unary("-", unary("-", num(1))), "--1")
	checkPut(t, unary("!", unary("-", unary("!", ax))), "!-!a.x")
	checkPut(t, unary("-", binary("*", num(1), num(2))), "-(1 * 2)")
	checkPut(t, unary("!", unary("!", binary("<", ax, by))), "!!(a.x < b.y)")
	checkPut(t, binary("-", num(1), unary("-", num(2))), "1 - -2")
	checkPut(t, binary("*", unary("-", num(1)), unary("-", binary("+", num(2), num(3)))), "-1 * -(2 + 3)")
	checkPut(t, binary("+", num(1), binary("*", num(2), num(3))), "1 + 2 * 3")
	checkPut(t, binary("*", binary("+", num(1), num(2)), num(3)), "(1 + 2) * 3")
	checkPut(t, binary("||", binary("&&", ax, by), binary("||", ax, by)), "a.x && b.y || (a.x || b.y)")
	checkPut(t, binary("%", num(7), binary("/", num(8), binary("*", num(9), num(2)))), "7 % (8 / (9 * 2))")
}

// P7.4: operations of each level beside and below each other.
func TestPutOfTwoOperations(t *testing.T) {
	for _, up := range ops() {
		for _, low := range ops() {
			kid := binary(low, ref("a", "x"), num(2))
			first, second := "a.x "+low+" 2", "a.x "+low+" 2"
			if level(low) < level(up) {
				first = "(" + first + ")"
			}
			if level(low) <= level(up) {
				second = "(" + second + ")"
			}
			checkPut(t, binary(up, kid, num(3)), first+" "+up+" 3")
			checkPut(t, binary(up, num(3), kid), "3 "+up+" "+second)
			checkPut(t, binary(up, kid, kid), first+" "+up+" "+second)
			for _, op := range []string{"-", "!"} {
				checkPut(t, unary(op, kid), op+"(a.x "+low+" 2)")
				checkPut(t, binary(up, unary(op, kid), unary(op, kid)), op+"(a.x "+low+" 2) "+up+" "+op+"(a.x "+low+" 2)")
			}
		}
	}
}

// chains: trees of three operations, in each shape.
func chains() []expr.Expr {
	var l []expr.Expr
	n1, n2, n3, n4 := num(1), num(2), ref("a", "x"), ref("b", "é9")
	for _, p := range ops() {
		for _, q := range ops() {
			for _, r := range ops() {
				l = append(l,
					binary(p, binary(q, n1, n2), binary(r, n3, n4)),
					binary(p, binary(q, binary(r, n1, n2), n3), n4),
					binary(p, binary(q, n1, binary(r, n2, n3)), n4),
					binary(p, n1, binary(q, binary(r, n2, n3), n4)),
					binary(p, n1, binary(q, n2, binary(r, n3, n4))))
			}
		}
	}
	return l
}

// P7.4: three operations of all levels, in each shape.
func TestPutOfThreeOperations(t *testing.T) {
	for _, e := range chains() {
		checkPut(t, e, expectedPut(e))
		if t.Failed() {
			return
		}
	}
}

// P7.4, P1: of what is not right it may be any text, but there is one.
func TestPutOfWhatIsNotRight(t *testing.T) {
	for _, e := range slices.Concat(mixes(), []expr.Expr{{Kind: expr.Unary}, {Kind: expr.Binary}, {Kind: math.MinInt}, num(math.MinInt64)}) {
		expr.Put(e)
		for _, one := range places(e) {
			expr.Put(one)
		}
	}
}

// P7.4: each once, in the order of their bytes.
func TestVars(t *testing.T) {
	checkVars(t, num(1))
	checkVars(t, expr.Expr{})
	checkVars(t, ref("a", "x"), "a")
	checkVars(t, unary("-", unary("!", ref("a", "x"))), "a")
	checkVars(t, binary("+", ref("b", "x"), ref("a", "x")), "a", "b")
	checkVars(t, binary("+", ref("a", "x"), ref("b", "x")), "a", "b")
	checkVars(t, binary("+", ref("a", "x"), ref("a", "y")), "a")
	checkVars(t, binary("+", ref("b", "x"), binary("*", ref("a", "y"), ref("b", "z"))), "a", "b")
	checkVars(t, binary("&&", binary("<", num(1), ref("c", "a")), binary("<", ref("a", "c"), unary("-", ref("b", "d")))), "a", "b", "c")
	order := []string{"A", "Ab", "B", "Z", "_", "__", "a", "a0", "aa", "ab", "b", "z", "zz", "\u0080", "é", "\u07ff", "\u0800", "日", "日本", "\uffff", "\U00010000", "\U0010ffff"}
	for _, a := range order {
		for _, b := range order {
			want := slices.Compact([]string{min(a, b), max(a, b)})
			checkVars(t, binary("+", ref(a, "x"), ref(b, "x")), want...)
		}
	}
	e, back := num(0), num(0)
	for _, name := range order {
		e = binary("-", e, binary("*", ref(name, "x"), ref(name, "y")))
		back = binary("-", unary("-", ref(name, "x")), back)
	}
	checkVars(t, e, order...)
	checkVars(t, back, order...)
	checkVars(t, binary("==", back, e), order...)
}

// P7.4: of all Refs there are, though the tree is not right; of what is no Ref nothing.
func TestVarsOfWhatIsNotRight(t *testing.T) {
	checkVars(t, ref("", "x"), "")
	checkVars(t, ref("BY", ""), "BY")
	checkVars(t, ref("\xff", "x"), "\xff")
	checkVars(t, expr.Expr{Kind: expr.Num, Var: "a"})
	checkVars(t, expr.Expr{Kind: expr.Unary, Op: "-", Var: "a", Kids: []expr.Expr{ref("b", "x")}}, "b")
	checkVars(t, expr.Expr{Kind: 9, Var: "a", Kids: []expr.Expr{ref("c", "x"), num(-1), ref("b", "x")}}, "b", "c")
	checkVars(t, expr.Expr{Kind: expr.Ref, Var: "a", Kids: []expr.Expr{ref("c", "x"), {Kids: []expr.Expr{ref("b", "x")}}}}, "a", "b", "c")
	checkVars(t, binary("?", ref("b", "x"), ref("a", "x")), "a", "b")
}

// P7.4, P3: each answer is the caller's own, spare room too.
func TestVarsIsNewMemory(t *testing.T) {
	e := binary("+", binary("+", ref("c", "x"), ref("a", "x")), binary("+", ref("b", "x"), ref("a", "y")))
	first, second := expr.Vars(e), expr.Vars(e)
	all := first[:cap(first)]
	for i := range all {
		all[i] = "written"
	}
	if !slices.Equal(second, []string{"a", "b", "c"}) {
		t.Errorf("an answer given earlier has changed: %q", second)
	}
	checkVars(t, e, "a", "b", "c")
}

// P7.2: e and all below it, whatever they are.
func TestSize(t *testing.T) {
	checkSize(t, expr.Expr{}, 1)
	checkSize(t, num(1), 1)
	checkSize(t, ref("a", "x"), 1)
	checkSize(t, unary("-", num(1)), 2)
	checkSize(t, binary("<", ref("a", "x"), num(3)), 3)
	checkSize(t, unary("!", binary("<", ref("a", "x"), num(3))), 4)
	checkSize(t, binary("+", num(1), binary("+", num(1), unary("-", num(1)))), 6)
	checkSize(t, expr.Expr{Kind: -5, Op: "x"}, 1)
	checkSize(t, expr.Expr{Kind: expr.Ref, Kids: make([]expr.Expr, 7)}, 8)
	checkSize(t, expr.Expr{Kids: []expr.Expr{{Kids: make([]expr.Expr, 2)}, {}, {Kind: 9, Kids: make([]expr.Expr, 3)}}}, 9)
	checkSize(t, expr.Expr{Kids: make([]expr.Expr, 1<<20)}, 1<<20+1)
}

// P7.5: what is put is alike just if they are the same.
func TestPutTellsApart(t *testing.T) {
	seen := map[string]expr.Expr{}
	l := slices.Concat(upTo(5), chains())
	l = append(l, num(1), num(2), num(120), num(math.MaxInt64), ref("a", "y"), ref("b", "x"), ref("ax", "x"), ref("a", "xx"), ref("x", "a"), ref("a1", "x"),
		ref("a", "x1"), ref("a1", "x2"), ref("é", "x"), ref("_", "_"), ref("__", "_"), ref("_", "__"), unary("-", num(120)))
	for _, e := range l {
		text := expr.Put(e)
		if other, ok := seen[text]; ok {
			t.Fatalf("%q is put of %+v and of %+v", text, other, e)
		}
		seen[text] = e
		if again := expr.Put(deepCopy(e)); again != text || !expr.Same(e, deepCopy(e)) {
			t.Fatalf("Put(%+v) = %q, and of the same %q", e, text, again)
		}
	}
}

// P7.5: of each two small trees.
func TestSameAsWhatIsPut(t *testing.T) {
	l := upTo(4)
	var texts []string
	for _, e := range l {
		texts = append(texts, expr.Put(e))
	}
	for i, a := range l {
		for j, b := range l {
			if got := expr.Same(a, b); got != (texts[i] == texts[j]) || got != (i == j) {
				t.Fatalf("Same is %t of %q and %q", got, texts[i], texts[j])
			}
		}
	}
}

// P7.4, P7.5: what is put reads as what it was, and with one pair of brackets less as something else.
func TestPutReadsAsItWas(t *testing.T) {
	for _, e := range slices.Concat(upTo(5), chains()) {
		text := expr.Put(e)
		r := reader{rest: text}
		if got := r.above(1); !equal(got, e) || r.rest != "" {
			t.Fatalf("%q reads as %+v, and %q is left; it was put of %+v", text, got, r.rest, e)
		}
		at := strings.IndexByte(text, '(')
		if at < 0 {
			continue
		}
		end, open := at, 0
		for ; end == at || open > 0; end++ {
			open += strings.Count(text[end:end+1], "(") - strings.Count(text[end:end+1], ")")
		}
		r = reader{rest: text[:at] + text[at+1:end-1] + text[end:]}
		if bare := r.rest; equal(r.above(1), e) {
			t.Fatalf("%q reads as the same without brackets, as %q", text, bare)
		}
	}
}

// P3: nothing that is handed in is written into, nor what stands behind it.
func TestNothingIsWritten(t *testing.T) {
	spare := append(make([]expr.Expr, 0, 4), ref("b", "x"), binary("+", ref("a", "x"), num(1)))
	e := binary("&&", binary("<", num(1), ref("c", "y")), expr.Expr{Kind: expr.Binary, Op: "==", Kids: spare})
	for _, one := range slices.Concat([]expr.Expr{e}, places(e), mixes()[:500]) {
		before := deepCopy(one)
		other := deepCopy(one)
		expr.Right(one)
		expr.Same(one, other)
		expr.Type(one)
		expr.Put(one)
		expr.Vars(one)
		expr.Size(one)
		if !equal(before, one) || !equal(before, other) {
			t.Errorf("%+v was %+v", one, before)
		}
	}
	for _, one := range spare[:cap(spare)][2:] {
		if !equal(one, expr.Expr{}) {
			t.Errorf("behind the Kids stands %+v", one)
		}
	}
}

// P4: what is answered hangs on the tree alone, whatever was asked ahead.
func TestSameAgain(t *testing.T) {
	e := binary("<", ref("b", "x"), unary("-", ref("a", "x")))
	for range 3 {
		checkRight(t, e, true)
		checkRight(t, unary("+", e), false)
		checkType(t, e, expr.Truth)
		checkType(t, unary("-", e), expr.None)
		checkPut(t, e, "b.x < -a.x")
		checkVars(t, e, "a", "b")
		checkVars(t, num(1))
		checkSize(t, e, 4)
	}
}

// deep: n Exprs below one another, each the Kid that grow makes it.
func deep(n int, leaf expr.Expr, grow func(expr.Expr) expr.Expr) expr.Expr {
	for range n {
		leaf = grow(leaf)
	}
	return leaf
}

// P1: trees as deep as they may be end, and in the time of their size.
func TestDeepTrees(t *testing.T) {
	const n = 99999
	a := ref("a", "x")
	less := binary("<", a, num(1))
	for _, c := range []struct {
		what       string
		leaf       expr.Expr
		grow       func(expr.Expr) expr.Expr
		size, kind int
		begins     string
	}{
		{"unary", a, func(e expr.Expr) expr.Expr { return unary("-", e) }, n + 1, expr.Number, "---"},
		{"not", less, func(e expr.Expr) expr.Expr { return unary("!", e) }, n + 3, expr.Truth, "!!!"},
		{"left", a, func(e expr.Expr) expr.Expr { return binary("-", e, num(1)) }, 2*n + 1, expr.Number, "a.x - 1 - 1"},
		{"right", a, func(e expr.Expr) expr.Expr { return binary("-", num(1), e) }, 2*n + 1, expr.Number, "1 - (1 - ("},
		{"mixed", a, func(e expr.Expr) expr.Expr { return binary("*", binary("+", e, a), num(1)) }, 4*(n/2) + 1, expr.Number, "((((("},
		{"truths", less, func(e expr.Expr) expr.Expr { return binary("&&", e, less) }, 4*n + 3, expr.Truth, "a.x < 1 && a.x < 1"},
		{"none", a, func(e expr.Expr) expr.Expr { return unary("!", e) }, n + 1, expr.None, "!!!"},
	} {
		steps := n
		if c.what == "mixed" {
			steps = n / 2
		}
		e, other := deep(steps, c.leaf, c.grow), deep(steps, c.leaf, c.grow)
		if !expr.Right(e) || expr.Type(e) != c.kind || expr.Size(e) != c.size || !expr.Same(e, other) {
			t.Errorf("%s: Right, Type, Size or Same", c.what)
		}
		if !slices.Equal(expr.Vars(e), []string{"a"}) || !strings.HasPrefix(expr.Put(e), c.begins) {
			t.Errorf("%s: Vars or Put", c.what)
		}
		wrong := deep(steps, num(-1), c.grow)
		if expr.Right(wrong) || expr.Type(wrong) != expr.None || expr.Same(e, wrong) || expr.Size(wrong) < n {
			t.Errorf("%s: a wrong leaf", c.what)
		}
		expr.Put(wrong)
	}
}
