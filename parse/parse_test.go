package parse_test

import (
	"math"
	"slices"
	"strconv"
	"strings"
	"testing"

	"jettison/api"
	"jettison/expr"
	"jettison/lex"
	"jettison/parse"
	"jettison/pattern"
)

func num(n int64) expr.Expr {
	return expr.Expr{Kind: expr.Num, N: n}
}

func ref(name, field string) expr.Expr {
	return expr.Expr{Kind: expr.Ref, Var: name, Field: field}
}

func unary(op string, kid expr.Expr) expr.Expr {
	return expr.Expr{Kind: expr.Unary, Op: op, Kids: []expr.Expr{kid}}
}

func binary(op string, first, second expr.Expr) expr.Expr {
	return expr.Expr{Kind: expr.Binary, Op: op, Kids: []expr.Expr{first, second}}
}

func one(name, v string, pred ...expr.Expr) pattern.Item {
	return pattern.Item{Kind: pattern.One, Name: name, Var: v, Pred: pred}
}

func times(name, v string, low, high int, pred ...expr.Expr) pattern.Item {
	return pattern.Item{Kind: pattern.Times, Name: name, Var: v, Low: low, High: high, Pred: pred}
}

func not(name, v string, pred ...expr.Expr) pattern.Item {
	return pattern.Item{Kind: pattern.Not, Name: name, Var: v, Pred: pred}
}

func alt(kids ...[]pattern.Item) pattern.Item {
	return pattern.Item{Kind: pattern.Alt, Kids: kids}
}

func items(l ...pattern.Item) []pattern.Item {
	return l
}

// answer: of any of the calls; what another call tells is nothing.
type answer struct {
	q  pattern.Query
	x  expr.Expr
	l  []pattern.Item
	at int
	e  api.Errno
}

// The calls, by the symbols of the grammar below that they begin with.
const (
	asQuery = "query"
	asExpr  = "expression"
	asItems = "items"
)

func calls() []string {
	return []string{asQuery, asExpr, asItems}
}

func ask(call, s string) (a answer) {
	switch call {
	case asQuery:
		a.q, a.at, a.e = parse.Parse(s)
	case asExpr:
		a.x, a.at, a.e = parse.Expr(s)
	case asItems:
		a.l, a.at, a.e = parse.Items(s)
	}
	return a
}

func (a answer) same(other answer) bool {
	return pattern.Same(a.q, other.q) && expr.Same(a.x, other.x) && pattern.SameItems(a.l, other.l) && a.at == other.at && a.e == other.e
}

// checkAnswer: with an error nothing else may be told, so that a want of a place and an error is whole.
func checkAnswer(t *testing.T, call, s string, want answer) {
	t.Helper()
	if got := ask(call, s); !got.same(want) {
		t.Errorf("%s of %q: %+v; want %+v", call, s, got, want)
	}
}

func checkExpr(t *testing.T, s string, want expr.Expr) {
	t.Helper()
	checkAnswer(t, asExpr, s, answer{x: want, at: len(s)})
}

// checkItems: alone, and of a query.
func checkItems(t *testing.T, s string, want ...pattern.Item) {
	t.Helper()
	checkAnswer(t, asItems, s, answer{l: want, at: len(s)})
	whole := s + " WITHIN 7"
	checkAnswer(t, asQuery, whole, answer{q: pattern.Query{Items: want, Within: 7}, at: len(whole)})
}

func checkQuery(t *testing.T, s string, want pattern.Query) {
	t.Helper()
	checkAnswer(t, asQuery, s, answer{q: want, at: len(s)})
}

func checkWrong(t *testing.T, call, s string, at int, e api.Errno) {
	t.Helper()
	checkAnswer(t, call, s, answer{at: at, e: e})
}

// checkWrongExpr: alone, and as a Pred, with some of an expression ahead.
func checkWrongExpr(t *testing.T, s string, at int, e api.Errno) {
	t.Helper()
	checkWrong(t, asExpr, s, at, e)
	checkWrong(t, asExpr, "1 + "+s, 4+at, e)
	if at < len(s) && !strings.HasPrefix(s[at:], "]") {
		checkWrong(t, asItems, "A a["+s+"]", 4+at, e)
		checkWrong(t, asQuery, "(B b | !A a["+s+"]", 12+at, e)
	}
}

// checkWrongItems: alone, of a query, and with items ahead.
func checkWrongItems(t *testing.T, s string, at int, e api.Errno) {
	t.Helper()
	checkWrong(t, asItems, s, at, e)
	checkWrong(t, asItems, "Z z ; "+s, 6+at, e)
	checkWrong(t, asItems, "(Z z | "+s, 7+at, e)
	checkWrong(t, asQuery, s, at, e)
	if at < len(s) {
		checkWrong(t, asQuery, s+" WITHIN 1", at, e)
	}
}

// ways: what a symbol may stand for, each a list of symbols with a space between; none of a symbol that is a word.
func ways(symbol string) []string {
	switch symbol {
	case "query":
		return []string{"items WITHIN window by"}
	case "by":
		return []string{"", "BY name"}
	case "items":
		return []string{"item moreitems"}
	case "moreitems":
		return []string{"", "; items"}
	case "item":
		return []string{"name name times pred", "! name name pred", "( items | items kids )"}
	case "kids":
		return []string{"", "| items kids"}
	case "times":
		return []string{"", "{ 1-1 , 1-4 }", "{ 2-2 , 2-4 }", "{ 3-3 , 3-4 }", "{ 4-4 , 4-4 }"}
	case "pred":
		return []string{"", "[ expression ]"}
	case "expression":
		return []string{"operand rest"}
	case "rest":
		return []string{"", "op expression"}
	case "operand":
		return []string{"number", "name . name", "sign operand", "( expression )"}
	}
	return nil
}

// stands: may the word w be where that symbol, which is of one word, is asked for?
func stands(symbol string, w lex.Token) bool {
	switch symbol {
	case "name":
		return w.Kind == lex.Name
	case "number":
		return w.Kind == lex.Number
	case "window":
		return w.Kind == lex.Number && w.N <= 1000000000
	case "sign":
		return w.Text == "-" || w.Text == "!"
	case "op":
		return slices.Contains(expr.Ops(), w.Text)
	}
	if low, high, ok := strings.Cut(symbol, "-"); ok {
		return w.Kind == lex.Number && strconv.FormatInt(w.N, 10) >= low && strconv.FormatInt(w.N, 10) <= high && len(w.Text) == 1
	}
	return w.Text == symbol
}

// expand: all lists of symbols that l, one of which must be gone by from its first on, may begin as with a symbol of one
// word, or with nothing. It tells too whether an item must begin.
func expand(l [][]string) (told [][]string, item bool) {
	for len(l) > 0 {
		symbols := l[0]
		l = l[1:]
		if len(symbols) == 0 || ways(symbols[0]) == nil {
			told = append(told, symbols)
			continue
		}
		item = item || symbols[0] == "item"
		for _, way := range ways(symbols[0]) {
			l = append(l, append(strings.Fields(way), symbols[1:]...))
		}
	}
	return told, item
}

// behind: the place behind the operand that begins at words[from]; above len(words), if it doesn't end there.
func behind(words []lex.Token, from int) int {
	if from >= len(words) {
		return len(words) + 1
	}
	w := words[from]
	if w.Kind == lex.Number {
		return from + 1
	}
	if w.Kind == lex.Name {
		return from + 3
	}
	if w.Text != "(" {
		return behind(words, from+1)
	}
	return behindBracket(words, from)
}

// behindBracket: the place behind the other half of the bracket words[from]; above len(words), if there is none.
func behindBracket(words []lex.Token, from int) int {
	for at, deep := from, 0; at < len(words); at++ {
		if strings.Contains("([", words[at].Text) {
			deep++
		} else if strings.Contains(")]", words[at].Text) {
			deep--
		}
		if deep == 0 {
			return at + 1
		}
	}
	return len(words) + 1
}

// open: how many are, at the last of words, by the chapter's words alone; signs are the places of those of a Unary.
func open(words []lex.Token, signs []int) (n int) {
	ahead := words[:len(words)-1]
	for at, w := range words {
		if strings.Contains("([", w.Text) && behindBracket(ahead, at) > len(ahead) {
			n++
		}
	}
	for _, at := range signs {
		if behind(ahead, at+1) > len(ahead) {
			n++
		}
	}
	return n
}

// expectedError: the place and the error, by the grammar and the chapter's words alone.
func expectedError(call, s string) (at int, e api.Errno) {
	words, at, e := lex.All(s)
	if e != api.OK {
		return at, e
	}
	l, began := [][]string{{call}}, 0
	var signs []int
	for n, w := range words {
		symbols, item := expand(l)
		if item && began == 12 {
			return w.At, api.ErrLimit
		}
		l = nil
		for _, one := range symbols {
			if len(one) > 0 && stands(one[0], w) {
				l = append(l, one[1:])
			}
			if len(one) > 0 && one[0] == "sign" && stands("sign", w) {
				signs = append(signs, n)
			}
		}
		if len(l) == 0 {
			return w.At, api.ErrParse
		}
		if open(words[:n+1], signs) > 16 {
			return w.At, api.ErrLimit
		}
		if item {
			began++
		}
	}
	symbols, item := expand(l)
	if item && began == 12 {
		return len(s), api.ErrLimit
	}
	if !slices.ContainsFunc(symbols, func(one []string) bool { return len(one) == 0 }) {
		return len(s), api.ErrParse
	}
	return len(s), api.OK
}

// split: words, cut at each of text that no bracket is around.
func split(words []lex.Token, text string) (told [][]lex.Token) {
	from := 0
	for at := 0; at < len(words); at++ {
		if strings.Contains("([", words[at].Text) {
			at = behindBracket(words, at) - 1
		} else if words[at].Text == text {
			told = append(told, words[from:at])
			from = at + 1
		}
	}
	return append(told, words[from:])
}

// modelExpr: words that are an expression, cut at the last of those operations that bind least.
func modelExpr(words []lex.Token) expr.Expr {
	cut := -1
	for at := behind(words, 0); at < len(words); at = behind(words, at+1) {
		if cut < 0 || expr.Level(words[at].Text) <= expr.Level(words[cut].Text) {
			cut = at
		}
	}
	if cut >= 0 {
		return binary(words[cut].Text, modelExpr(words[:cut]), modelExpr(words[cut+1:]))
	}
	switch {
	case words[0].Text == "(":
		return modelExpr(words[1 : len(words)-1])
	case words[0].Kind == lex.Sign:
		return unary(words[0].Text, modelExpr(words[1:]))
	case words[0].Kind == lex.Number:
		return num(words[0].N)
	}
	return ref(words[0].Text, words[2].Text)
}

// modelItems: words that are items, cut at what stands between.
func modelItems(words []lex.Token) (l []pattern.Item) {
	for _, w := range split(words, ";") {
		if w[0].Text == "(" {
			var i pattern.Item
			for _, kid := range split(w[1:len(w)-1], "|") {
				i.Kids = append(i.Kids, modelItems(kid))
			}
			i.Kind = pattern.Alt
			l = append(l, i)
			continue
		}
		var i pattern.Item
		if w[0].Text == "!" {
			i.Kind = pattern.Not
			w = w[1:]
		}
		i.Name, i.Var = w[0].Text, w[1].Text
		w = w[2:]
		if len(w) > 0 && w[0].Text == "{" {
			i.Kind, i.Low, i.High = pattern.Times, int(w[1].N), int(w[3].N)
			w = w[5:]
		}
		if len(w) > 0 {
			i.Pred = []expr.Expr{modelExpr(w[1 : len(w)-1])}
		}
		l = append(l, i)
	}
	return l
}

// expected: what the call answers of s.
func expected(call, s string) (a answer) {
	a.at, a.e = expectedError(call, s)
	if a.e != api.OK {
		return a
	}
	words, _, _ := lex.All(s)
	switch call {
	case asQuery:
		parts := split(words, "WITHIN")
		a.q = pattern.Query{Items: modelItems(parts[0]), Within: parts[1][0].N}
		if len(parts[1]) == 3 {
			a.q.By = parts[1][2].Text
		}
	case asExpr:
		a.x = modelExpr(words)
	case asItems:
		a.l = modelItems(words)
	}
	return a
}

// checkModel: is the answer the model's? It tells the answer.
func checkModel(t *testing.T, call, s string) answer {
	t.Helper()
	want := expected(call, s)
	got := ask(call, s)
	if !got.same(want) {
		t.Fatalf("%s of %q: %+v; want %+v", call, s, got, want)
	}
	if got.e == api.OK {
		checkPutAgain(t, call, s, got)
	}
	return got
}

// checkPutAgain: what is put of an answer is parsed as the same, or is too long.
func checkPutAgain(t *testing.T, call, s string, a answer) {
	t.Helper()
	var text string
	switch call {
	case asQuery:
		text = pattern.Put(a.q)
	case asExpr:
		text = expr.Put(a.x)
	case asItems:
		text = pattern.PutItems(a.l)
	}
	a.at = len(text)
	if len(text) > 2048 {
		a = answer{at: 2048, e: api.ErrLimit}
	}
	if got := ask(call, text); !got.same(a) || text == "" {
		t.Fatalf("%s of %q, put as %q: %+v; want %+v", call, s, text, got, a)
	}
}

// P10.2: ordinary expressions, the chapter's example ahead.
func TestExpr(t *testing.T) {
	checkExpr(t, "1 + 2 * 3", binary("+", num(1), binary("*", num(2), num(3))))
	checkExpr(t, "1", num(1))
	checkExpr(t, "a.x", ref("a", "x"))
	checkExpr(t, " a\n.\tx ", ref("a", "x"))
	checkExpr(t, "é.\ufffd9", ref("é", "\ufffd9"))
	checkExpr(t, "-1", unary("-", num(1)))
	checkExpr(t, "!a.x", unary("!", ref("a", "x")))
	checkExpr(t, "(1)", num(1))
	checkExpr(t, "((a.x))", ref("a", "x"))
	checkExpr(t, "0", num(0))
	checkExpr(t, "9223372036854775807", num(math.MaxInt64))
	checkExpr(t, "-9223372036854775807", unary("-", num(math.MaxInt64)))
	checkExpr(t, "(1 + 2) * 3", binary("*", binary("+", num(1), num(2)), num(3)))
	checkExpr(t, "1 - 2 - 3", binary("-", binary("-", num(1), num(2)), num(3)))
	checkExpr(t, "1 - (2 - 3)", binary("-", num(1), binary("-", num(2), num(3))))
	checkExpr(t, "a.x<b.y&&!(c.z==0)||1<2", binary("||", binary("&&", binary("<", ref("a", "x"), ref("b", "y")), unary("!", binary("==", ref("c", "z"), num(0)))), binary("<", num(1), num(2))))
	// What an expression tells is not asked.
	checkExpr(t, "!1 + (2 < 3)", binary("+", unary("!", num(1)), binary("<", num(2), num(3))))
}

// P10.2: a sign takes the operand alone, and what is in brackets whole.
func TestSigns(t *testing.T) {
	checkExpr(t, "-a.x % 2", binary("%", unary("-", ref("a", "x")), num(2)))
	checkExpr(t, "-(a.x % 2)", unary("-", binary("%", ref("a", "x"), num(2))))
	checkExpr(t, "!1 == 2", binary("==", unary("!", num(1)), num(2)))
	checkExpr(t, "1 - -2", binary("-", num(1), unary("-", num(2))))
	checkExpr(t, "1--2", binary("-", num(1), unary("-", num(2))))
	checkExpr(t, "1 - - - 2", binary("-", num(1), unary("-", unary("-", num(2)))))
	checkExpr(t, "--5", unary("-", unary("-", num(5))))
	checkExpr(t, "!-!5", unary("!", unary("-", unary("!", num(5)))))
	checkExpr(t, "!(!(1))", unary("!", unary("!", num(1))))
	checkExpr(t, "1!=!2", binary("!=", num(1), unary("!", num(2))))
	checkExpr(t, "1 * -2 * 3", binary("*", binary("*", num(1), unary("-", num(2))), num(3)))
	checkExpr(t, "-1 - -1 < -1", binary("<", binary("-", unary("-", num(1)), unary("-", num(1))), unary("-", num(1))))
}

// P10.2: each two operations, and each three, against the Levels of chapter 7.
func TestLevels(t *testing.T) {
	for _, first := range expr.Ops() {
		checkExpr(t, "1"+first+"2", binary(first, num(1), num(2)))
		for _, second := range expr.Ops() {
			left := binary(second, binary(first, num(1), num(2)), num(3))
			right := binary(first, num(1), binary(second, num(2), num(3)))
			s := "1 " + first + " 2 " + second + " 3"
			if expr.Level(first) >= expr.Level(second) {
				checkExpr(t, s, left)
			} else {
				checkExpr(t, s, right)
			}
			checkExpr(t, "(1 "+first+" 2) "+second+" 3", left)
			checkExpr(t, "1 "+first+" (2 "+second+" 3)", right)
			for _, third := range expr.Ops() {
				checkModel(t, asExpr, s+" "+third+" a.x")
				checkModel(t, asExpr, "1 "+first+" (2 "+second+" 3 "+third+" 4)")
				checkModel(t, asExpr, "-1"+first+"(2"+second+"!3)"+third+"4")
				checkModel(t, asExpr, s+third+"4"+first+"5"+second+"6")
			}
		}
	}
}

// P10.1: ordinary items.
func TestItems(t *testing.T) {
	a, b := one("A", "a"), one("B", "b")
	checkItems(t, "A a", a)
	checkItems(t, "A a;B b", a, b)
	checkItems(t, "\tA a ;\r\n B b ", a, b)
	checkItems(t, "A A", one("A", "A"))
	checkItems(t, "é 日本", one("é", "日本"))
	checkItems(t, "!A a", not("A", "a"))
	checkItems(t, "! A a ; !B b", not("A", "a"), not("B", "b"))
	checkItems(t, "A a[1]", one("A", "a", num(1)))
	checkItems(t, "A a [ a.x < 3 ] ; B b", one("A", "a", binary("<", ref("a", "x"), num(3))), b)
	checkItems(t, "!A a[!a.x]", not("A", "a", unary("!", ref("a", "x"))))
	checkItems(t, "A a{1,3}", times("A", "a", 1, 3))
	checkItems(t, "A a { 2 , 2 } [ (1) ]", times("A", "a", 2, 2, num(1)))
	checkItems(t, "(A a|B b)", alt(items(a), items(b)))
	checkItems(t, "(A a;B b|B b|A a;A a;A a)", alt(items(a, b), items(b), items(a, a, a)))
	checkItems(t, "((A a|B b)|A a);B b", alt(items(alt(items(a), items(b))), items(a)), b)
	checkItems(t, "(A a|(B b|A a;B b))", alt(items(a), items(alt(items(b), items(a, b)))))
	checkItems(t, "(!A a|B b{1,1}[2])", alt(items(not("A", "a")), items(times("B", "b", 1, 1, num(2)))))
	checkItems(t, "(A a[(1)]|B b[1||2])", alt(items(one("A", "a", num(1))), items(one("B", "b", binary("||", num(1), num(2))))))
}

// P10.1: all numbers of a Times, below, within and above.
func TestRepeats(t *testing.T) {
	for _, low := range []int64{0, 1, 2, 3, 4, 5, 6, 10, 14, 1 << 32, 1<<32 + 1, math.MaxInt64} {
		for _, high := range []int64{0, 1, 2, 3, 4, 5, 6, 10, 14, 1 << 32, 1<<32 + 1, 1<<32 + 4, math.MaxInt64} {
			begin := "A a{" + strconv.FormatInt(low, 10)
			s := begin + "," + strconv.FormatInt(high, 10) + "}"
			switch {
			case low < 1 || low > 4:
				checkWrongItems(t, s, 4, api.ErrParse)
			case high < low || high > 4:
				checkWrongItems(t, s, len(begin)+1, api.ErrParse)
			default:
				checkItems(t, s, times("A", "a", int(low), int(high)))
			}
		}
	}
}

// P10.1: ordinary queries, and the ends of Within.
func TestParse(t *testing.T) {
	a := items(one("A", "a"))
	for _, within := range []int64{0, 1, 2, 999999999, 1000000000} {
		s := "A a WITHIN " + strconv.FormatInt(within, 10)
		checkQuery(t, s, pattern.Query{Items: a, Within: within})
		checkQuery(t, s+" BY k", pattern.Query{Items: a, Within: within, By: "k"})
	}
	for _, within := range []int64{1000000001, 1 << 31, 1 << 32, 1<<32 + 1, 1 << 40, math.MaxInt64} {
		checkWrong(t, asQuery, "A a WITHIN "+strconv.FormatInt(within, 10), 11, api.ErrParse)
		checkWrong(t, asQuery, "A a WITHIN "+strconv.FormatInt(within, 10)+" BY k", 11, api.ErrParse)
	}
	for _, by := range []string{"k", "A", "a", "é", "By", "within", strings.Repeat("k", 24)} {
		checkQuery(t, "A a WITHIN 1 BY "+by+"\n", pattern.Query{Items: a, Within: 1, By: by})
	}
	checkQuery(t, "A a[1]WITHIN 1BY k", pattern.Query{Items: items(one("A", "a", num(1))), Within: 1, By: "k"})
	checkQuery(t, "A a;B b{1,3}[b.x>a.x];!C c;(D d|E e;F f|G g)WITHIN 0 BY k", pattern.Query{By: "k", Items: items(one("A", "a"),
		times("B", "b", 1, 3, binary(">", ref("b", "x"), ref("a", "x"))), not("C", "c"), alt(items(one("D", "d")), items(one("E", "e"), one("F", "f")), items(one("G", "g"))))})
	// What is parsed need not be what chapter 11 lets be.
	checkQuery(t, "!A a[1] WITHIN 5", pattern.Query{Items: items(not("A", "a", num(1))), Within: 5})
}

// P10.3: the place and the error of what is no word, wherever it stands, and whatever else is wrong.
func TestWhatIsNoWord(t *testing.T) {
	for _, bad := range []string{"$", "=", "&", "01", "9223372036854775808", strings.Repeat("z", 25), "\xff", "\x00"} {
		for _, call := range calls() {
			checkWrong(t, call, bad, 0, api.ErrLex)
			for _, ahead := range []string{"A a ", ") ) ", "WITHIN ", "1 + ", "1 ", "A a[", "A a{", "(A a|", strings.Repeat("(", 20), strings.Repeat("A a;", 13)} {
				checkWrong(t, call, ahead+bad, len(ahead), api.ErrLex)
				checkWrong(t, call, ahead+bad+" ; A a WITHIN 1", len(ahead), api.ErrLex)
			}
			for _, right := range []string{"A a WITHIN 1 BY k", "1 < a.x", "A a ; B b"} {
				checkWrong(t, call, right+" "+bad, len(right)+1, api.ErrLex)
			}
		}
	}
	checkWrong(t, asQuery, "A a WITHIN "+strings.Repeat("9", 19), 11, api.ErrLex)
	checkWrong(t, asItems, "A a{1,9223372036854775808}", 6, api.ErrLex)
}

// P10.3, P10.4: as many bytes as there may be, and more.
func TestLongTexts(t *testing.T) {
	for _, s := range []string{"1", "a.x", "(1 + 2)", "1" + strings.Repeat("+1", 1023), "1 " + strings.Repeat("*1", 1022), strings.Repeat("-1-", 600) + "1"} {
		full := s + strings.Repeat(" ", 2048-len(s))
		for _, text := range []string{s, full, full[:2047], strings.Repeat(" ", 2048-len(s)) + s} {
			if got := checkModel(t, asExpr, text); got.e != api.OK {
				t.Errorf("%d bytes: %d", len(text), got.e)
			}
		}
	}
	long := strings.Repeat("é", 12)
	query := strings.Repeat("(A a[1];", 3) + strings.Repeat(" ", 1900) + "B b|C c) | D d ) | E e) WITHIN 5 BY " + long
	if got := checkModel(t, asQuery, query); got.e != api.OK {
		t.Errorf("%d bytes: %d at %d", len(query), got.e, got.at)
	}
	pred := "A a[1" + strings.Repeat(" <= 1", 408)
	if got := checkModel(t, asItems, pred+"]  "); got.e != api.OK || len(pred) != 2045 {
		t.Errorf("%d bytes: %d at %d", len(pred), got.e, got.at)
	}
	for _, call := range calls() {
		checkWrong(t, call, strings.Repeat(" ", 2048), 2048, api.ErrParse)
		for _, s := range []string{"1", "A a", "A a WITHIN 1", "$", ")", strings.Repeat("(", 17), strings.Repeat("A a;", 13), "", strings.Repeat("x", 2049), strings.Repeat("$", 2049)} {
			checkWrong(t, call, s+strings.Repeat(" ", max(0, 2049-len(s))), 2048, api.ErrLimit)
			checkWrong(t, call, strings.Repeat(" ", 2048)+s+" ", 2048, api.ErrLimit)
			checkWrong(t, call, s+strings.Repeat(" ", 1<<20), 2048, api.ErrLimit)
		}
		checkWrong(t, call, strings.Repeat("(", 1<<20), 2048, api.ErrLimit)
	}
}

// P10.3: words that may not stand there, or are too few, of an expression.
func TestWrongExprs(t *testing.T) {
	for s, at := range map[string]int{"": 0, " ": 1, "a": 1, "a ": 2, "a.": 2, "a.9": 2, "a.BY": 2, "a.WITHIN": 2, "a.(": 2, "a.-x": 2, "a..x": 2, "a x": 2, ".x": 0,
		"BY": 0, "WITHIN.x": 0, "*": 0, "* 1": 0, "+1": 0, "&&": 0, "==1": 0, "-": 1, "!": 1, "!!": 2, "- ": 2, "-*1": 1, "!<1": 1, "1 +": 3, "1 + ": 4, "1 + *": 4,
		"1 + + 1": 4, "1 <": 3, "1 < < 1": 4, "(": 1, "()": 1, "(1": 2, "(1 ": 3, "(1]": 2, "(1 2": 3, "(1+": 3, "(1+)": 3, "((1)": 4, "(a)": 2, "(,": 1, ";": 0, "|": 0,
		"[1]": 0, "[": 0, "{": 0, "}": 0, ",": 0, "-(": 2, "-()": 2, "1.": 1} {
		checkWrongExpr(t, s, at, api.ErrParse)
		checkModel(t, asExpr, s)
	}
	// Behind what is whole nothing else may stand.
	for _, s := range []string{"1", "a.x", "(1)", "-1", "!a.x", "1 + 2", "1 < (2)"} {
		for _, behind := range []string{"1", "a", "a.x", "(", ")", "(1)", "[", "]", "{", "}", ",", ";", "|", "!", ".", "BY", "WITHIN", "WITHIN 1"} {
			checkWrong(t, asExpr, s+" "+behind, len(s)+1, api.ErrParse)
			if behind != "]" {
				checkWrong(t, asItems, "A a["+s+" "+behind+"]", len(s)+5, api.ErrParse)
			}
			if behind != ")" {
				checkWrong(t, asExpr, "("+s+" "+behind+")", len(s)+2, api.ErrParse)
			}
		}
		checkWrong(t, asExpr, "("+s, len(s)+1, api.ErrParse)
		checkWrong(t, asItems, "A a["+s, len(s)+4, api.ErrParse)
		checkWrong(t, asItems, "A a["+s+")", len(s)+4, api.ErrParse)
	}
}

// P10.3: words that may not stand there, or are too few, of items.
func TestWrongItems(t *testing.T) {
	for s, at := range map[string]int{"": 0, " ": 1, "A": 1, "A ": 2, "A;": 1, "A 1": 2, "A BY": 2, "A WITHIN": 2, "A !": 2, "A [": 2, "A {": 2, "A.x": 1, "1": 0, ";": 0, "; A a": 0, "BY k": 0, "WITHIN 1": 0, "|": 0,
		")": 0, "[1]": 0, "{1,1}": 0, "-A a": 0, "A a;": 4, "A a; ": 5, "A a;;": 4, "A a;)": 4, "A a;WITHIN": 4, "A a B b": 4, "A a, B b": 3, "A a 1": 4, "A a !B b": 4, "A a (": 4, "A a.x": 3,
		"A a BY": 4, "A a || B b": 4, "A a && B b": 4, "A a ] ": 4, "A a }": 4, "A a + B b": 4, "!": 1, "!A": 2, "!!A a": 1, "!(": 1, "!(A a|B b)": 1, "!1": 1, "!A 1": 3, "!;": 1, "! A a{1,2}": 5, "!=A a": 0,
		"A a{": 4, "A a{}": 4, "A a{,2}": 4, "A a{a": 4, "A a{-1": 4, "A a{1": 5, "A a{1}": 5, "A a{1;": 5, "A a{1 2": 6, "A a{1,": 6, "A a{1,}": 6, "A a{1,b": 6, "A a{1,-1": 6, "A a{1,2": 7,
		"A a{1,2]": 7, "A a{1,2,3}": 7, "A a{1,2}{1,2}": 8, "A a{1,2} B b": 9, "A a[1]{1,2}": 6, "A a[": 4, "A a[]": 4, "A a[1": 5, "A a[1[": 5, "A a[1}": 5, "A a[1;": 5, "A a[1][2]": 6, "A a[1] B": 7,
		"A a{1,2}[": 9, "A a{1,2}[]": 9, "(": 1, "()": 1, "(|": 1, "(;": 1, "(A": 2, "(A a": 4, "(A a)": 4, "(A a]": 4, "(A a;": 5, "(A a;)": 5, "(A a|": 5, "(A a|)": 5, "(A a||B b)": 4, "(A a| |B b)": 6,
		"(A a|B b": 8, "(A a|B b;": 9, "(A a|B b;)": 9, "(A a|B b|": 9, "(A a|B b|)": 9, "(A a|B b]": 8, "(A a|B b WITHIN 1": 9, "(A a|B b) C c": 10, "(A a|B b)[1]": 9, "(A a|B b){1,2}": 9, "(A a|B b)(": 9,
		"((A a)|B b)": 5, "((A a|B b))": 10, "(A a|B b) x": 10, "[A a|B b]": 0} {
		checkWrongItems(t, s, at, api.ErrParse)
		checkModel(t, asItems, s)
		checkModel(t, asQuery, s)
	}
	for _, s := range []string{"A a", "!A a", "A a{1,2}", "A a[1]", "(A a|B b)", "A a;B b"} {
		for _, behind := range []string{"|", ")", "]", "}", ",", ".", "WITHIN", "WITHIN 1", "BY k", "1", "A", "!A a", "(", "||", "-"} {
			checkWrong(t, asItems, s+" "+behind, len(s)+1, api.ErrParse)
		}
	}
}

// P10.3: words that may not stand there, or are too few, behind the items of a query.
func TestWrongQueries(t *testing.T) {
	for s, at := range map[string]int{"A a": 3, "A a ": 4, "A a BY k": 4, "A a WITHIN": 10, "A a WITHIN ": 11, "A a WITHIN x": 11, "A a WITHIN -1": 11, "A a WITHIN BY": 11, "A a WITHIN (1)": 11, "A a WITHIN WITHIN": 11,
		"A a WITHIN 5 BY": 15, "A a WITHIN 5 BY ": 16, "A a WITHIN 5 BY 5": 16, "A a WITHIN 5 BY BY": 16, "A a WITHIN 5 BY WITHIN": 16, "A a WITHIN 5 BY k x": 18, "A a WITHIN 5 BY k BY k": 18, "A a WITHIN 5 BY k.x": 17,
		"A a WITHIN 5 5": 13, "A a WITHIN 5 k": 13, "A a WITHIN 5;": 12, "A a WITHIN 5 WITHIN 5": 13, "A a WITHIN 5)": 12, "A a WITHIN 5+1": 12, "A a within 5": 4, "A a WITHIN5": 4, "WITHIN 5": 0, "BY k": 0,
		"A a; WITHIN 1": 5, "A a | B b WITHIN 1": 4, "A a) WITHIN 1": 3} {
		checkWrong(t, asQuery, s, at, api.ErrParse)
		checkModel(t, asQuery, s)
	}
}

// P10.3: as many brackets and signs open at once as there may be, and one more, of all mixes.
func TestOpenInExprs(t *testing.T) {
	for mix := range 64 {
		begin, end := "", ""
		for n := range 17 {
			sign := []string{"(", "-", "!", "("}[mix>>(2*(n%3))&3]
			if sign == "(" {
				end = ")" + end
			}
			begin += sign
			s := begin + "1" + end
			want := api.OK
			if n == 16 {
				want = api.ErrLimit
				checkWrong(t, asExpr, s, 16, want)
				checkWrong(t, asExpr, begin, 16, want)
				checkWrong(t, asExpr, begin+"*", 16, want)
				checkWrong(t, asExpr, begin+begin, 16, want)
				checkWrong(t, asExpr, begin[:16], 16, api.ErrParse)
				checkWrong(t, asExpr, begin[:16]+"]", 16, api.ErrParse)
				checkWrong(t, asExpr, "*"+s, 0, api.ErrParse)
			}
			for _, text := range []string{s, begin + "a.x" + end, "1 + " + s + " * 2", s + " < " + s, begin, begin + "1 < 2" + end} {
				if got := checkModel(t, asExpr, text); (got.e == api.ErrLimit) != (want == api.ErrLimit) {
					t.Errorf("%q: %d", text, got.e)
				}
			}
			checkModel(t, asItems, "A a["+s+"]")
		}
	}
}

// P10.3: what is closed, or ended, ahead is not open any more.
func TestClosedIsNotOpen(t *testing.T) {
	deep := strings.Repeat("(", 15) + "1" + strings.Repeat(")", 15)
	for _, s := range []string{"-1", "(1)", "!(-1)", "-a.x", deep, "-" + deep, strings.Repeat("-", 16) + "1", "(-1-(-1))"} {
		text := s
		for len(text)+len(s) < 2000 {
			text += "+" + s
		}
		for _, whole := range []string{text, "!(1)*" + text, "(2)-" + s} {
			if got := checkModel(t, asExpr, whole); got.e != api.OK {
				t.Errorf("%q: %d at %d", whole, got.e, got.at)
			}
		}
		checkWrong(t, asExpr, text+"+"+strings.Repeat("-", 17)+"1", len(text)+17, api.ErrLimit)
	}
	checkExpr(t, strings.Repeat("(", 16)+"1"+strings.Repeat(")", 16)+"-(-1)", binary("-", num(1), unary("-", num(1))))
	checkItems(t, "A a["+strings.Repeat("(", 15)+"1"+strings.Repeat(")", 15)+"];A a["+strings.Repeat("-(", 7)+"!1"+strings.Repeat(")", 7)+"]",
		one("A", "a", num(1)), one("A", "a", unary("-", unary("-", unary("-", unary("-", unary("-", unary("-", unary("-", unary("!", num(1)))))))))))
}

// P10.3: the brackets of an Alt, and of a Pred, are open as well; braces, and the `!` of a Not, are not.
func TestOpenInItems(t *testing.T) {
	for alts := range 12 {
		begin, end := strings.Repeat("(", alts), strings.Repeat("|A a)", min(alts, 11-alts))
		for signs := range 18 {
			for _, item := range []string{"A a[", "!A a[", "A a{1,2}["} {
				ahead := begin + item
				within := strings.Repeat("-", signs/2) + strings.Repeat("(", signs-signs/2)
				s := ahead + within + "1" + strings.Repeat(")", signs-signs/2) + "]" + end
				want := answer{at: len(s)}
				if alts+1+signs > 16 {
					want = answer{at: len(ahead) + 16 - alts - 1, e: api.ErrLimit}
				} else if alts > 11-alts {
					want.e = api.ErrParse
				}
				got := checkModel(t, asItems, s)
				if got.at != want.at || got.e != want.e {
					t.Errorf("%q: %d at %d; want %d at %d", s, got.e, got.at, want.e, want.at)
				}
			}
		}
	}
	checkWrong(t, asItems, "A a["+strings.Repeat("(", 15)+"!1", 19, api.ErrLimit)
	checkWrong(t, asItems, "!A a["+strings.Repeat("(", 15)+"1", 21, api.ErrParse)
	checkWrong(t, asItems, "A a{1,2}["+strings.Repeat("(", 16)+"1", 24, api.ErrLimit)
}

// P10.3: as many items as there may be, and one more, wherever they stand.
func TestManyItems(t *testing.T) {
	for _, item := range []string{"A a", "!A a", "A a{1,2}", "A a[1]", "A a{2,2}[-1]"} {
		for n := 1; n <= 30; n++ {
			flat := strings.Repeat(item+";", n)
			kids := "(" + strings.Repeat(item+"|", n)
			if n < 12 {
				checkModel(t, asItems, flat)
				checkWrong(t, asItems, flat, len(flat), api.ErrParse)
				if got := checkModel(t, asQuery, flat+item+" WITHIN 1"); got.e != api.OK {
					t.Errorf("%d items and one: %d", n, got.e)
				}
			} else {
				begin := 12 * (len(item) + 1)
				for _, behind := range []string{"", item, item + " WITHIN 1", "(", ")", "1", ";", "WITHIN 1"} {
					checkWrong(t, asItems, flat+behind, begin, api.ErrLimit)
					checkWrong(t, asQuery, flat+behind, begin, api.ErrLimit)
				}
			}
			if n < 11 {
				checkWrong(t, asItems, kids, len(kids), api.ErrParse)
				if got := checkModel(t, asItems, kids+item+")"); got.e != api.OK {
					t.Errorf("%d Kids and one: %d", n, got.e)
				}
			} else {
				for _, behind := range []string{"", item, item + ")", ")", "(", ";"} {
					checkWrong(t, asItems, kids+behind, 1+11*(len(item)+1), api.ErrLimit)
				}
			}
		}
	}
	// Space behind is passed by: an item must begin where the next word does, or where the text ends.
	checkWrong(t, asItems, strings.Repeat("A a ; ", 12)+"  A a", 74, api.ErrLimit)
	checkWrong(t, asItems, strings.Repeat("A a ; ", 12)+" ", 73, api.ErrLimit)
	// No more items begin behind the last one.
	checkWrong(t, asItems, strings.Repeat("A a;", 11)+"A a A", 48, api.ErrParse)
	checkWrong(t, asItems, strings.Repeat("A a;", 11)+"A", 45, api.ErrParse)
	checkWrong(t, asItems, strings.Repeat("A a;", 11)+";", 44, api.ErrParse)
}

// P10.3: an Alt is an item too, and all that are in it.
func TestManyAlts(t *testing.T) {
	for n := 1; n <= 20; n++ {
		s := strings.Repeat("(", n) + "A a"
		if n < 12 {
			checkWrong(t, asItems, s, len(s), api.ErrParse)
		} else {
			checkWrong(t, asItems, s, 12, api.ErrLimit)
			checkWrong(t, asQuery, strings.Repeat("(", n), 12, api.ErrLimit)
			checkWrong(t, asQuery, strings.Repeat("(", 12)+"*", 12, api.ErrLimit)
		}
	}
	for alts := 1; alts <= 6; alts++ {
		begin := strings.Repeat("(", alts)
		for n := range 12 {
			s := begin + strings.Repeat("A a;", n) + "A a" + strings.Repeat("|A a)", alts)
			got := checkModel(t, asItems, s)
			if want := 2*alts+n+1 <= 12; (got.e == api.OK) != want || !want && got.e != api.ErrLimit || want && pattern.Count(got.l) != 2*alts+n+1 {
				t.Errorf("%q: %d at %d", s, got.e, got.at)
			}
			checkModel(t, asQuery, strings.Repeat("A a;", n)+begin+"A a"+strings.Repeat("|A a)", alts)+" WITHIN 1")
			checkModel(t, asQuery, begin+"A a"+strings.Repeat("|A a)", alts)+strings.Repeat(";A a", n)+" WITHIN 1")
		}
	}
	five := "(A a|A a)"
	checkModel(t, asItems, strings.Join(slices.Repeat([]string{five}, 4), ";"))
	checkWrong(t, asItems, strings.Join(slices.Repeat([]string{five}, 5), ";"), 40, api.ErrLimit)
}

// P10.3: of several errors the first one, from the left on; of two at one place the limit.
func TestTheFirstError(t *testing.T) {
	deep, many := strings.Repeat("(", 17)+"1", strings.Repeat("A a;", 13)
	checkWrong(t, asExpr, "1 ] "+deep, 2, api.ErrParse)
	checkWrong(t, asExpr, deep+" ] ", 16, api.ErrLimit)
	checkWrong(t, asItems, "A a ] ;"+many, 4, api.ErrParse)
	checkWrong(t, asItems, many+" ]", 48, api.ErrLimit)
	checkWrong(t, asItems, "A a["+deep+"];"+many, 19, api.ErrLimit)
	checkWrong(t, asItems, many+"A a["+deep+"]", 48, api.ErrLimit)
	checkWrong(t, asItems, "A a[1 1];"+many, 6, api.ErrParse)
	checkWrong(t, asQuery, "A a{5,5};"+many+" WITHIN", 4, api.ErrParse)
	checkWrong(t, asQuery, many+"A a WITHIN 1000000001", 48, api.ErrLimit)
	checkWrong(t, asQuery, "A a WITHIN 1000000001;"+many, 11, api.ErrParse)
	checkWrong(t, asItems, strings.Repeat("A a;", 12), 48, api.ErrLimit)
	checkWrong(t, asItems, strings.Repeat("A a;", 12)+"]", 48, api.ErrLimit)
	checkWrong(t, asItems, "A a["+strings.Repeat("-", 15)+"]", 19, api.ErrParse)
	checkWrong(t, asItems, "A a["+strings.Repeat("-", 15)+"-]", 19, api.ErrLimit)
}

// walk: all texts of up to n words of l, each asked, where those ahead of the last may stand.
func walk(t *testing.T, call, ahead string, l []string, n int) (asked int) {
	for _, word := range l {
		s := ahead + word
		got := checkModel(t, call, s+" ")
		asked++
		// An error ahead of the end is there whatever stands behind.
		if n > 1 && got.at > len(s) {
			asked += walk(t, call, s+" ", l, n-1)
		}
	}
	return asked
}

// P10.1 to P10.4: all short texts, against the model.
func TestShortTexts(t *testing.T) {
	atoms := []string{"1", "a", ".", "-", "!", "(", ")", "*", "<", "&&", "]", "BY"}
	n := walk(t, asExpr, "", atoms, 7)
	words := append(lex.Signs(), "A", "0", "2", "4", "5", "WITHIN", "BY")
	n += walk(t, asItems, "", words, 6)
	n += walk(t, asItems, "A a [ ", words, 4)
	n += walk(t, asItems, "( A a ; ! A a | ", words, 5)
	n += walk(t, asQuery, "A a { ", words, 6)
	n += walk(t, asQuery, "A a WITHIN ", words, 6)
	n += walk(t, asQuery, "", []string{"A", ";", "!", "(", "|", ")", "[", "1", "]", "WITHIN"}, 9)
	if n < 50000 {
		t.Errorf("only %d texts were asked", n)
	}
}

// chance: numbers that look like any, the same ones at each run.
type chance uint32

func (c *chance) below(n int) int {
	*c = *c*1664525 + 1013904223
	return int(uint32(*c)>>8) % n
}

// derive: words that symbol may stand for, not many where there is a choice once left is below 0.
func derive(c *chance, symbol string, left *int) []string {
	*left--
	l := ways(symbol)
	if l == nil {
		return []string{word(c, symbol)}
	}
	way := l[c.below(len(l))]
	if *left < 0 && symbol != "times" {
		way = l[0]
	}
	var told []string
	for _, part := range strings.Fields(way) {
		told = append(told, derive(c, part, left)...)
	}
	return told
}

// word: one that stands for a symbol of one word.
func word(c *chance, symbol string) string {
	switch symbol {
	case "name":
		return []string{"A", "b", "é9", "_"}[c.below(4)]
	case "number", "window":
		return []string{"0", "1", "7", "1000000000"}[c.below(4)]
	case "sign":
		return []string{"-", "!"}[c.below(2)]
	case "op":
		return expr.Ops()[c.below(13)]
	}
	if _, high, ok := strings.Cut(symbol, "-"); ok {
		return high
	}
	return symbol
}

// turned: words, one of which is gone, twice, another, or has changed its place.
func turned(c *chance, words []string) []string {
	if len(words) == 0 {
		return words
	}
	at := c.below(len(words))
	l := slices.Clone(words)
	switch c.below(4) {
	case 0:
		return slices.Delete(l, at, at+1)
	case 1:
		return slices.Insert(l, at, words[c.below(len(words))])
	case 2:
		other := append(lex.Signs(), "A", "0", "3", "5", "1000000001", "WITHIN", "BY")
		l[at] = other[c.below(len(other))]
		return l
	}
	other := c.below(len(words))
	l[at], l[other] = l[other], l[at]
	return l
}

// P10.1 to P10.4: longer texts, that are right and that are not, against the model.
func TestLongerTexts(t *testing.T) {
	c := chance(1)
	seen := map[api.Errno]int{}
	for n := range 20000 {
		call := calls()[n%3]
		left := 10 + n%90
		words := derive(&c, call, &left)
		for _, l := range [][]string{words, turned(&c, words), turned(&c, turned(&c, words))} {
			got := checkModel(t, call, strings.Join(l, " "))
			seen[got.e]++
			if got.e == api.OK {
				checkModel(t, call, strings.Join(l, "\n\t"))
			}
		}
	}
	for _, e := range []api.Errno{api.OK, api.ErrParse, api.ErrLimit} {
		if seen[e] < 500 {
			t.Errorf("only %d texts had %d", seen[e], e)
		}
	}
}

// P10.4: what has brackets that it does not need is put without, and parsed as the same.
func TestPutAgain(t *testing.T) {
	for _, s := range []string{"(((1)))+((2)*(3))", "((1+2))*3", "1-(2-(3-4))", "(1-2)-3", "-(-(1))", "-((1+2))", "!(a.x)", "(1<2)&&(3<4)||(5<6)", "1<(2<3)", "(1<2)<3",
		strings.Repeat("(", 16) + "1" + strings.Repeat(")", 16), strings.Repeat("-(", 8) + "1+1" + strings.Repeat(")", 8), strings.Repeat("1+(", 16) + "1" + strings.Repeat(")", 16)} {
		if got := checkModel(t, asExpr, s); got.e != api.OK {
			t.Errorf("%q: %d", s, got.e)
		}
	}
	// What is put has spaces that the text had not: it may be too long.
	for n := range 1024 {
		checkPutAgain(t, asExpr, "", ask(asExpr, "1"+strings.Repeat("+1", n)))
	}
	for _, n := range []int{510, 511, 512, 1020} {
		checkPutAgain(t, asItems, "", ask(asItems, "A a[1"+strings.Repeat("+1", n)+"]"))
		checkPutAgain(t, asQuery, "", ask(asQuery, "A a[1"+strings.Repeat("+1", n-5)+"]WITHIN 1"))
	}
}

// mark writes over all that was told, spare room too.
func mark(l []pattern.Item) {
	for _, i := range l {
		for _, kid := range i.Kids[:cap(i.Kids)] {
			mark(kid[:cap(kid)])
		}
		markExprs(i.Pred)
	}
	all := l[:cap(l)]
	for at := range all {
		all[at] = pattern.Item{Kind: 7, Name: "written"}
	}
}

func markExprs(l []expr.Expr) {
	all := l[:cap(l)]
	for at := range all {
		markExprs(all[at].Kids)
		all[at] = expr.Expr{Kind: 7, Op: "written"}
	}
}

// P3: what is told is the caller's own, and no two lists of it share any.
func TestNewMemory(t *testing.T) {
	const s = "A a[1+2-3] ; (B b;!C c[-x.y]|D d) WITHIN 1"
	want := expected(asQuery, s)
	first, second, third := ask(asQuery, s), ask(asQuery, s), ask(asQuery, s)
	mark(first.q.Items)
	if !second.same(want) || want.e != api.OK {
		t.Errorf("an answer given earlier has changed: %+v", second)
	}
	checkAnswer(t, asQuery, s, want)
	// What is written over is held against nothing: all else of the answer must be as it was.
	mark(third.q.Items[1].Kids[0])
	markExprs(third.q.Items[0].Pred[0].Kids)
	for _, a := range []answer{third, want} {
		a.q.Items[0].Pred[0].Kids = nil
		a.q.Items[1].Kids[0] = nil
	}
	if !third.same(want) {
		t.Errorf("a list of an answer has changed with another one: %+v", third)
	}
}

// P4: what is answered hangs on the text alone, whatever was asked ahead.
func TestSameAgain(t *testing.T) {
	for range 3 {
		for _, call := range calls() {
			checkWrong(t, call, "$", 0, api.ErrLex)
			checkWrong(t, call, "(", 1, api.ErrParse)
		}
		checkWrong(t, asExpr, strings.Repeat("(", 17), 16, api.ErrLimit)
		checkWrong(t, asItems, strings.Repeat("(", 17), 12, api.ErrLimit)
		checkExpr(t, "-1", unary("-", num(1)))
		checkItems(t, "(A a|B b)", alt(items(one("A", "a")), items(one("B", "b"))))
	}
}

// P1: every call ends, at texts of any bytes.
func TestAnyBytes(t *testing.T) {
	c := chance(7)
	for range 3000 {
		b := make([]byte, c.below(40))
		for at := range b {
			b[at] = byte(c.below(256))
		}
		for _, call := range calls() {
			checkModel(t, call, string(b))
		}
	}
}
