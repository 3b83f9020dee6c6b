package schema_test

import (
	"slices"
	"strconv"
	"strings"
	"testing"

	"jettison/api"
	"jettison/schema"
)

// runeWidth: how many bytes the rune that s begins with has, by Unicode's table of what may stand in UTF-8; 0, if it
// begins with none. It is written out here so that what the package takes from the library is held against it.
func runeWidth(s string) int {
	for _, form := range []struct {
		first, second [2]byte
		width         int
	}{
		{[2]byte{0x00, 0x7f}, [2]byte{}, 1},
		{[2]byte{0xc2, 0xdf}, [2]byte{0x80, 0xbf}, 2},
		{[2]byte{0xe0, 0xe0}, [2]byte{0xa0, 0xbf}, 3},
		{[2]byte{0xe1, 0xec}, [2]byte{0x80, 0xbf}, 3},
		{[2]byte{0xed, 0xed}, [2]byte{0x80, 0x9f}, 3},
		{[2]byte{0xee, 0xef}, [2]byte{0x80, 0xbf}, 3},
		{[2]byte{0xf0, 0xf0}, [2]byte{0x90, 0xbf}, 4},
		{[2]byte{0xf1, 0xf3}, [2]byte{0x80, 0xbf}, 4},
		{[2]byte{0xf4, 0xf4}, [2]byte{0x80, 0x8f}, 4},
	} {
		if s[0] < form.first[0] || s[0] > form.first[1] {
			continue
		}
		if len(s) < form.width || form.width > 1 && (s[1] < form.second[0] || s[1] > form.second[1]) {
			return 0
		}
		for i := 2; i < form.width; i++ {
			if s[i] < 0x80 || s[i] > 0xbf {
				return 0
			}
		}
		return form.width
	}
	return 0
}

// expected: is s a name, by the chapter's words alone?
func expected(s string) bool {
	if s == "" || len(s) > 24 || s == "WITHIN" || s == "BY" {
		return false
	}
	for at := 0; at < len(s); {
		width := runeWidth(s[at:])
		letter := strings.IndexByte("abcdefghijklmnopqrstuvwxyzABCDEFGHIJKLMNOPQRSTUVWXYZ_", s[at]) >= 0
		digit := strings.IndexByte("0123456789", s[at]) >= 0
		if width == 0 || width == 1 && !letter && (!digit || at == 0) {
			return false
		}
		at += width
	}
	return true
}

func checkName(t *testing.T, s string, want bool) {
	t.Helper()
	if got := schema.IsName(s); got != want {
		t.Errorf("IsName(%q) = %t; want %t", s, got, want)
	}
}

func checkRight(t *testing.T, what string, s []schema.Kind, want api.Errno) {
	t.Helper()
	if got := schema.Right(s); got != want {
		t.Errorf("%s: Right(%q) = %d; want %d", what, s, got, want)
	}
}

func checkSame(t *testing.T, a, b []schema.Kind, want bool) {
	t.Helper()
	if got := schema.Same(a, b); got != want {
		t.Errorf("Same(%q, %q) = %t; want %t", a, b, got, want)
	}
	if got := schema.Same(b, a); got != want {
		t.Errorf("Same(%q, %q) = %t; want %t", b, a, got, want)
	}
}

func checkNoKinds(t *testing.T, text string) {
	t.Helper()
	if got, ok := schema.Get(text); len(got) != 0 || ok {
		t.Errorf("Get(%q) = %q, %t; want nothing, false", text, got, ok)
	}
}

// equal is Same by the test's own words.
func equal(a, b []schema.Kind) bool {
	if len(a) != len(b) {
		return false
	}
	for i := range a {
		if a[i].Name != b[i].Name || !slices.Equal(a[i].Fields, b[i].Fields) {
			return false
		}
	}
	return true
}

func checkGot(t *testing.T, text string, want []schema.Kind) {
	t.Helper()
	got, ok := schema.Get(text)
	if !ok || !equal(got, want) || !schema.Same(got, want) {
		t.Errorf("Get(%q) = %q, %t; want %q, true", text, got, ok, want)
	}
	if again := schema.Put(got); again != text {
		t.Errorf("Put(Get(%q)) = %q", text, again)
	}
}

func kind(name string, fields ...string) schema.Kind {
	return schema.Kind{Name: name, Fields: fields}
}

// names: n of them, none twice, each of all the bytes that a name may have.
func names(n int) []string {
	var l []string
	for i := range n {
		end := strconv.Itoa(i)
		l = append(l, strings.Repeat("n", api.MaxName-len(end))+end)
	}
	return l
}

// kinds: n of them, each with m fields.
func kinds(n, m int) []schema.Kind {
	var s []schema.Kind
	for _, name := range names(n) {
		s = append(s, kind(name, names(m)...))
	}
	return s
}

// deepCopy: to see later whether something was written.
func deepCopy(s []schema.Kind) []schema.Kind {
	l := slices.Clone(s)
	for i := range l {
		l[i].Fields = slices.Clone(l[i].Fields)
	}
	return l
}

// P4.1: ordinary names, and what may not begin or stand in one.
func TestIsName(t *testing.T) {
	for _, s := range []string{"a", "z", "A", "Z", "_", "__", "_0", "a0", "a9", "Ab_9", "é", "éa", "aé", "é9", "\u0080",
		"a\u0080", "日本", "\U0001f600", "\U0010ffff", "\u07ff", "\u0800", "\uffff", "\U00010000", "\ud7ff", "\ue000", "\ufeff", "\u00a0", "\u2028", "\u0660"} {
		checkName(t, s, true)
	}
	for _, s := range []string{"", "0", "9", "9a", "0é", " ", " a", "a ", "a b", "a.b", "a-b", "a(", "(a", "a)", "a,b", "a;", ";", ",",
		"\x00", "a\x00", "a\n", "\ta", "@a", "a[", "`", "a{", "/", "a:", "a\x7f", "\x7f", "$", "a'"} {
		checkName(t, s, false)
	}
}

// P4.1: the two words of queries alone, in just these letters.
func TestIsNameOfKeys(t *testing.T) {
	for _, s := range []string{"WITHIN", "BY"} {
		checkName(t, s, false)
		for _, near := range []string{s + "_", "_" + s, s + "1", s + "é", s + s, s[1:], s[:len(s)-1], strings.ToLower(s), s[:1] + strings.ToLower(s[1:])} {
			checkName(t, near, true)
		}
	}
}

// P4.1: the length is of bytes, not of runes.
func TestIsNameAtItsLength(t *testing.T) {
	for n := range 60 {
		checkName(t, strings.Repeat("z", n), n >= 1 && n <= 24)
		checkName(t, strings.Repeat("é", n), n >= 1 && n <= 12)
		checkName(t, strings.Repeat("日", n), n >= 1 && n <= 8)
		checkName(t, strings.Repeat("\U0001f600", n), n >= 1 && n <= 6)
		checkName(t, strings.Repeat("9", n), false)
	}
	checkName(t, strings.Repeat("z", 22)+"é", true)
	checkName(t, strings.Repeat("z", 23)+"é", false)
	checkName(t, "é"+strings.Repeat("9", 22), true)
	checkName(t, "é"+strings.Repeat("9", 23), false)
	checkName(t, strings.Repeat("z", 1<<20), false)
}

// P4.1: U+FFFD is a rune as any other; bytes that are none are not it.
func TestIsNameOfBytesThatAreNoRune(t *testing.T) {
	checkName(t, "\ufffd", true)
	checkName(t, "\xef\xbf\xbd", true)
	checkName(t, "a\ufffd", true)
	checkName(t, "\ufffd9", true)
	checkName(t, strings.Repeat("\ufffd", 8), true)
	checkName(t, strings.Repeat("\ufffd", 9), false)
	for _, bad := range []string{
		"\x80", "\xbf", "\xfe", "\xff", "\xc3", "\xe6", "\xe6\x97", "\xf0\x9f\x98", "\xef\xbf",
		"\xc0\x80", "\xc1\x81", "\xc1\xbf", "\xe0\x80\x80", "\xe0\x9f\xbf", "\xf0\x80\x80\x80", "\xf0\x8f\xbf\xbf",
		"\xed\xa0\x80", "\xed\xbf\xbf", "\xed\xa0\x80\xed\xb0\x80",
		"\xf4\x90\x80\x80", "\xf5\x80\x80\x80", "\xf8\x88\x80\x80\x80",
		"\xc3a", "\xe6\x97a", "\xbd\xbf\xef",
	} {
		for _, s := range []string{bad, "a" + bad, bad + "a", "a" + bad + "a", "\ufffd" + bad, bad + "\ufffd", "é" + bad + "é"} {
			checkName(t, s, false)
		}
	}
}

// P4.1: every rune, ahead and behind.
func TestIsNameOfEveryRune(t *testing.T) {
	for r := rune(0); r <= 0x10ffff; r++ {
		if r >= 0xd800 && r <= 0xdfff {
			continue
		}
		letter := r >= 'a' && r <= 'z' || r >= 'A' && r <= 'Z' || r == '_' || r >= 0x80
		if s := string(r); schema.IsName(s) != letter {
			t.Errorf("IsName(%q) = %t", s, !letter)
		}
		behind := letter || r >= '0' && r <= '9'
		if s := "a" + string(r); schema.IsName(s) != behind {
			t.Errorf("IsName(%q) = %t", s, !behind)
		}
	}
}

// P4.1: all texts of up to four bytes, of bytes at the ends of what UTF-8 tells apart.
func TestIsNameOfShortTexts(t *testing.T) {
	ends := "\x00/09:@AZ[_`az{\x7f\x80\x8f\x90\x9f\xa0\xbf\xc0\xc1\xc2\xdf\xe0\xe1\xec\xed\xee\xef\xf0\xf1\xf3\xf4\xf5\xff"
	texts := []string{""}
	for range 4 {
		var longer []string
		for _, s := range texts {
			for i := range len(ends) {
				longer = append(longer, s+ends[i:i+1])
			}
		}
		for _, s := range longer {
			if got, want := schema.IsName(s), expected(s); got != want {
				t.Fatalf("IsName(%q) = %t; want %t", s, got, want)
			}
		}
		texts = longer
	}
}

// P4.2: what is right.
func TestRight(t *testing.T) {
	checkRight(t, "one", []schema.Kind{kind("A")}, api.OK)
	checkRight(t, "two", []schema.Kind{kind("A", "x", "y"), kind("B")}, api.OK)
	checkRight(t, "fields of no room", []schema.Kind{{Name: "A", Fields: []string{}}}, api.OK)
	checkRight(t, "a field in two kinds", []schema.Kind{kind("A", "x"), kind("B", "x")}, api.OK)
	checkRight(t, "a field as its kind", []schema.Kind{kind("A", "A", "B"), kind("B", "A", "B")}, api.OK)
	checkRight(t, "letters of two sizes", []schema.Kind{kind("a", "x", "X"), kind("A", "x", "X")}, api.OK)
	checkRight(t, "one is the beginning of the other", []schema.Kind{kind("A", "x", "xx"), kind("AA", "xx", "x")}, api.OK)
	checkRight(t, "runes that look alike", []schema.Kind{kind("\u00e9", "\u00e9", "e\u0301"), kind("e\u0301")}, api.OK)
}

// P4.2: as many kinds and fields as there may be, and one more.
func TestRightAtTheLimits(t *testing.T) {
	checkRight(t, "nil", nil, api.ErrLimit)
	checkRight(t, "empty", []schema.Kind{}, api.ErrLimit)
	for n := 1; n <= 40; n++ {
		want := api.OK
		if n > 16 {
			want = api.ErrLimit
		}
		checkRight(t, "so many kinds", kinds(n, 0), want)
		checkRight(t, "so many kinds, all fields", kinds(n, 8), want)
	}
	for m := range 20 {
		want := api.OK
		if m > 8 {
			want = api.ErrLimit
		}
		checkRight(t, "so many fields", kinds(1, m), want)
		checkRight(t, "so many fields of all kinds", kinds(16, m), want)
		last := append(kinds(15, 8), kind("last", names(m)...))
		checkRight(t, "so many fields of the last kind", last, want)
	}
	checkRight(t, "all at once", make([]schema.Kind, 100000), api.ErrLimit)
}

// P4.2: names that are none, or stand ahead.
func TestRightOfNames(t *testing.T) {
	for _, s := range []string{"", "9", "a b", "WITHIN", "BY", "a\xff", "\xc3", "\xed\xa0\x80", "\xc0\x80", strings.Repeat("z", 25), "A(", "x,y", ";"} {
		checkRight(t, "the only kind", []schema.Kind{kind(s)}, api.ErrName)
		checkRight(t, "the first kind", []schema.Kind{kind(s, "x"), kind("B")}, api.ErrName)
		checkRight(t, "the last kind", []schema.Kind{kind("A", "x"), kind("B"), kind(s)}, api.ErrName)
		checkRight(t, "the only field", []schema.Kind{kind("A", s)}, api.ErrName)
		checkRight(t, "the first field", []schema.Kind{kind("A", s, "x")}, api.ErrName)
		checkRight(t, "the last field", []schema.Kind{kind("A", "x"), kind("B", "x", "y", s)}, api.ErrName)
	}
	checkRight(t, "twice", []schema.Kind{kind("A"), kind("A")}, api.ErrName)
	checkRight(t, "twice, of other fields", []schema.Kind{kind("A", "x"), kind("B"), kind("A", "y")}, api.ErrName)
	checkRight(t, "a field twice", []schema.Kind{kind("A", "x", "x")}, api.ErrName)
	checkRight(t, "a field twice, apart", []schema.Kind{kind("A"), kind("B", "x", "y", "z", "x")}, api.ErrName)
	for i := range 15 {
		s := kinds(16, 8)
		s[15].Name = s[i].Name
		checkRight(t, "the last is an earlier one", s, api.ErrName)
	}
	for i := range 7 {
		s := kinds(16, 8)
		s[15].Fields[7] = s[15].Fields[i]
		checkRight(t, "the last field is an earlier one", s, api.ErrName)
	}
}

// P4.2, P2: of several errors the first is told: all kinds' number, then kind by kind.
func TestRightTellsTheFirst(t *testing.T) {
	nine := names(9)
	checkRight(t, "too many, none of them right", make([]schema.Kind, 17), api.ErrLimit)
	checkRight(t, "too many, of no names", append(kinds(16, 0), kind("9")), api.ErrLimit)
	checkRight(t, "fields ahead of the name", []schema.Kind{kind("9", nine...)}, api.ErrLimit)
	checkRight(t, "fields ahead of a name that stands ahead", []schema.Kind{kind("A"), kind("A", nine...)}, api.ErrLimit)
	checkRight(t, "fields ahead of theirs", []schema.Kind{kind("A", make([]string, 9)...)}, api.ErrLimit)
	checkRight(t, "the first kind's name", []schema.Kind{kind("9"), kind("B", nine...)}, api.ErrName)
	checkRight(t, "the first kind's field", []schema.Kind{kind("A", "9"), kind("B", nine...)}, api.ErrName)
	checkRight(t, "the first kind's field that stands ahead", []schema.Kind{kind("A", "x", "x"), kind("B", nine...)}, api.ErrName)
	checkRight(t, "a name that stands ahead", []schema.Kind{kind("A"), kind("A"), kind("B", nine...)}, api.ErrName)
	checkRight(t, "the first kind's fields", []schema.Kind{kind("A", nine...), kind("9")}, api.ErrLimit)
}

// P4.2: the first of that Name, whatever else the kinds are.
func TestFind(t *testing.T) {
	s := []schema.Kind{kind("A", "x"), kind("B", "A"), kind("AB"), kind("A"), kind(""), kind("é\xff"), kind("BY")}
	for name, want := range map[string]int{"A": 0, "B": 1, "AB": 2, "": 4, "é\xff": 5, "BY": 6, "x": -1, "a": -1, "ABC": -1, "A ": -1, "é": -1, "é\xfe": -1, "é\ufffd": -1} {
		if got := schema.Find(s, name); got != want {
			t.Errorf("Find(%q) = %d; want %d", name, got, want)
		}
	}
	if schema.Find(nil, "A") != -1 || schema.Find([]schema.Kind{}, "") != -1 || schema.Find(nil, "") != -1 {
		t.Error("Find of no kinds")
	}
	many := kinds(16, 8)
	for i, k := range many {
		if got := schema.Find(many, k.Name); got != i {
			t.Errorf("Find(%q) = %d; want %d", k.Name, got, i)
		}
	}
	if got := schema.Find(append(make([]schema.Kind, 1000), kind("last")), "last"); got != 1000 {
		t.Errorf("Find of the last = %d", got)
	}
}

// P4.2: the first of the Fields, whatever else they are.
func TestField(t *testing.T) {
	k := kind("A", "x", "y", "x", "", "xy", "\xff", "9")
	for name, want := range map[string]int{"x": 0, "y": 1, "": 3, "xy": 4, "\xff": 5, "9": 6, "A": -1, "X": -1, "xyz": -1, "\xfe": -1, "\ufffd": -1, "x ": -1} {
		if got := schema.Field(k, name); got != want {
			t.Errorf("Field(%q) = %d; want %d", name, got, want)
		}
	}
	if schema.Field(schema.Kind{}, "") != -1 || schema.Field(kind("A"), "A") != -1 || schema.Field(kind("x"), "x") != -1 {
		t.Error("Field of no fields")
	}
	for i, f := range names(8) {
		if got := schema.Field(kind("", names(8)...), f); got != i {
			t.Errorf("Field(%q) = %d; want %d", f, got, i)
		}
	}
	if got := schema.Field(kind("A", append(make([]string, 1000), "last")...), "last"); got != 1000 {
		t.Errorf("Field of the last = %d", got)
	}
}

// P4.2, P5: all Names and Fields, one by one; a list of nothing is nil or empty.
func TestSame(t *testing.T) {
	checkSame(t, nil, nil, true)
	checkSame(t, nil, []schema.Kind{}, true)
	checkSame(t, []schema.Kind{{Name: "A"}}, []schema.Kind{{Name: "A", Fields: []string{}}}, true)
	checkSame(t, kinds(16, 8), kinds(16, 8), true)
	checkSame(t, kinds(40, 20), kinds(40, 20), true)
	checkSame(t, []schema.Kind{kind("\xff", "", "\xfe")}, []schema.Kind{kind("\xff", "", "\xfe")}, true)
	two := []schema.Kind{kind("A", "x", "y"), kind("B")}
	for _, other := range [][]schema.Kind{
		nil,
		two[:1],
		two[1:],
		{kind("B"), kind("A", "x", "y")},
		{kind("A", "x", "y"), kind("B"), kind("C")},
		{kind("A", "x", "y"), kind("B"), {}},
		{kind("A", "y", "x"), kind("B")},
		{kind("A", "x"), kind("B")},
		{kind("A", "x", "y", "z"), kind("B")},
		{kind("A", "x", "Y"), kind("B")},
		{kind("A", "x", "y"), kind("b")},
		{kind("A", "x", "y"), kind("B", "")},
		{kind("a", "x", "y"), kind("B")},
		{kind("A", "x", "y"), kind("B", "x")},
		{kind("A"), kind("B")},
		{kind("A"), kind("B", "x", "y")},
	} {
		checkSame(t, two, other, false)
	}
	checkSame(t, []schema.Kind{{}}, nil, false)
	checkSame(t, []schema.Kind{kind("\xff")}, []schema.Kind{kind("\ufffd")}, false)
	checkSame(t, []schema.Kind{kind("\xff")}, []schema.Kind{kind("\xfe")}, false)
	checkSame(t, []schema.Kind{kind("A", "\xff")}, []schema.Kind{kind("A", "\xfe")}, false)
}

// P4.2: kinds that are put alike are not the same for that.
func TestSameIsNotOfWhatIsPut(t *testing.T) {
	for _, c := range [][2][]schema.Kind{
		{{kind("A", "x,y")}, {kind("A", "x", "y")}},
		{{kind("A", "")}, {kind("A")}},
		{{kind("A();B")}, {kind("A"), kind("B")}},
		{{kind("A", "x);B(y")}, {kind("A", "x"), kind("B", "y")}},
	} {
		if schema.Put(c[0]) != schema.Put(c[1]) {
			t.Errorf("Put(%q) is not Put(%q)", c[0], c[1])
		}
		checkSame(t, c[0], c[1], false)
	}
}

// P4.2: one part that differs, wherever it stands.
func TestSameAsksEachPart(t *testing.T) {
	for i := range 16 {
		s := kinds(16, 8)
		s[i].Name = "other"
		checkSame(t, s, kinds(16, 8), false)
		for j := range 8 {
			s := kinds(16, 8)
			s[i].Fields[j] = "other"
			checkSame(t, s, kinds(16, 8), false)
		}
	}
}

// P4.3: the chapter's example, and kinds that are not right, which are put all the same.
func TestPut(t *testing.T) {
	for _, c := range []struct {
		want string
		s    []schema.Kind
	}{
		{"A(x,y);", []schema.Kind{kind("A", "x", "y")}},
		{"", nil},
		{"", []schema.Kind{}},
		{"A();", []schema.Kind{kind("A")}},
		{"A();", []schema.Kind{{Name: "A", Fields: []string{}}}},
		{"A(x);", []schema.Kind{kind("A", "x")}},
		{"A(x,y);B();C(z);", []schema.Kind{kind("A", "x", "y"), kind("B"), kind("C", "z")}},
		{"B();A();B();", []schema.Kind{kind("B"), kind("A"), kind("B")}},
		{"é(日,\ufffd);", []schema.Kind{kind("é", "日", "\ufffd")}},
		{"();", []schema.Kind{{}}},
		{"(,,);", []schema.Kind{kind("", "", "", "")}},
		{"\xff(\xc3,9);", []schema.Kind{kind("\xff", "\xc3", "9")}},
		{"();();();", make([]schema.Kind, 3)},
		{strings.Repeat("();", 1000), make([]schema.Kind, 1000)},
		{"A(" + strings.Repeat("x,", 999) + "x);", []schema.Kind{kind("A", slices.Repeat([]string{"x"}, 1000)...)}},
	} {
		if got := schema.Put(c.s); got != c.want {
			t.Errorf("Put(%q) = %q; want %q", c.s, got, c.want)
		}
	}
}

// P4.3: texts that are of kinds.
func TestGet(t *testing.T) {
	checkGot(t, "A(x,y);", []schema.Kind{kind("A", "x", "y")})
	checkGot(t, "A();", []schema.Kind{kind("A")})
	checkGot(t, "A(x,y);B();C(z);", []schema.Kind{kind("A", "x", "y"), kind("B"), kind("C", "z")})
	checkGot(t, "A(A,B);B(B,A);", []schema.Kind{kind("A", "A", "B"), kind("B", "B", "A")})
	checkGot(t, "within(by);_(_0);", []schema.Kind{kind("within", "by"), kind("_", "_0")})
	// Wide signs are runes from 0x80 on: parts of a name, not signs of Put.
	checkGot(t, "A(x，y);", []schema.Kind{kind("A", "x，y")})
	checkGot(t, "é(日,\ufffd);\U0001f600();", []schema.Kind{kind("é", "日", "\ufffd"), kind("\U0001f600")})
}

// P4.3: texts that are of none.
func TestGetRefuses(t *testing.T) {
	for _, text := range []string{
		"", ";", ";;", "(", ")", "()", ",", "A", "A;", "A(", "A()", "A);", "A(;", "A(x", "A(x)", "A(x;", "Ax);", "A)(;",
		"A(x,y);B()", "A(x,y);B(", "A(x,y);B", "A(x,y)B();", "A(x,y),B();", "A(x,y);;", ";A(x,y);", "A();;B();", "A()();", "A()x;", "A(x)y;",
		"A(,);", "A(,x);", "A(x,);", "A(x,,y);", "A(x)(y);", "A((x);", "A((x));", "A(x));", "((A(x);", "A(x;y);", "A(x);)",
		" A(x);", "A (x);", "A( x);", "A(x );", "A(x, y);", "A(x) ;", "A(x); ", "A(x);\n", "\x00A(x);", "A(x);\x00",
		"();", "(x);", "9(x);", "A(9);", "A.b();", "A(x.y);", "A(x y);", "WITHIN();", "BY();", "A(WITHIN);", "A(x,BY);",
		"A();A();", "A(x);A(y);", "A();B();A();", "A(x,x);", "A(x,y,x);",
		"\xff();", "A(\xff);", "A(x\xc3);", "\xed\xa0\x80();", "A(\xc0\x80);", "A();\xff", "A(x\xef\xbf);",
		strings.Repeat("z", 25) + "();", "A(" + strings.Repeat("z", 25) + ");",
		"A（x）;", "A(x);；",
	} {
		checkNoKinds(t, text)
	}
}

// P4.3: as many kinds and fields as there may be, and one more, and far more.
func TestGetAtTheLimits(t *testing.T) {
	for n := 1; n <= 40; n++ {
		text := schema.Put(kinds(n, n%9))
		if n <= 16 {
			checkGot(t, text, kinds(n, n%9))
		} else {
			checkNoKinds(t, text)
		}
	}
	for m := range 20 {
		s := append(kinds(15, 8), kind("last", names(m)...))
		if m <= 8 {
			checkGot(t, schema.Put(s), s)
		} else {
			checkNoKinds(t, schema.Put(s))
		}
	}
	checkGot(t, schema.Put(kinds(16, 8)), kinds(16, 8))
	checkNoKinds(t, schema.Put(kinds(16, 8))+";")
	checkNoKinds(t, schema.Put(kinds(16, 8))+"A")
	for _, sign := range []string{";", "(", ")", ",", "A();", "x,", "A(", "\xff"} {
		checkNoKinds(t, strings.Repeat(sign, 1<<20))
		checkNoKinds(t, "A("+strings.Repeat(sign, 1<<20)+");")
	}
}

// P4.3: of every short text: what is got is right, and is put as the text was; and whatever is put so is got.
func TestGetOfShortTexts(t *testing.T) {
	want := map[string][]schema.Kind{}
	lists := [][]string{nil, {"A"}, {"x"}, {"A", "x"}, {"x", "A"}, {"Ax"}, {"xA"}, {"AA"}, {"xx"}}
	for _, first := range []string{"A", "x", "AA", "Ax", "xA", "xx", "AAA", "AAx", "AxA", "Axx", "xAA", "xAx", "xxA", "xxx"} {
		for _, l := range lists {
			for _, s := range [][]schema.Kind{{kind(first, l...)}, {kind(first, l...), kind("A")}, {kind(first, l...), kind("x")}} {
				if schema.Right(s) == api.OK {
					want[schema.Put(s)] = s
				}
			}
		}
	}
	seen := 0
	texts := []string{""}
	for range 7 {
		var longer []string
		for _, text := range texts {
			for _, c := range []string{"A", "x", "(", ")", ",", ";"} {
				longer = append(longer, text+c)
			}
		}
		for _, text := range longer {
			got, ok := schema.Get(text)
			if s := want[text]; ok && (schema.Right(got) != api.OK || schema.Put(got) != text) || !ok && (len(got) != 0 || s != nil) {
				t.Fatalf("Get(%q) = %q, %t; put so is %q", text, got, ok, s)
			}
			if ok {
				seen++
			}
		}
		texts = longer
	}
	if seen < 50 {
		t.Errorf("only %d texts were of kinds", seen)
	}
}

// P4.4: what is right, and put, is got as the same.
func TestPutIsGot(t *testing.T) {
	words := []string{"a", "Z", "_", "a9", "within", "by", "BYE", "é", "日本", "\ufffd", "\U0010ffff", "\u0080", strings.Repeat("z", 24), strings.Repeat("é", 12), "e\u0301", "WITHIN_"}
	for n := 1; n <= 16; n++ {
		for m := range 9 {
			var s []schema.Kind
			for i := range n {
				fields := append(slices.Clone(words[i:]), words[:i]...)[:(m+i)%9]
				s = append(s, kind(words[(i*5+m)%16], fields...))
			}
			checkRight(t, "mixed", s, api.OK)
			checkGot(t, schema.Put(s), s)
		}
	}
}

// P4.4: what is not right is not got, or not as the same.
func TestPutOfWhatIsNotRight(t *testing.T) {
	for _, s := range [][]schema.Kind{
		nil, make([]schema.Kind, 1), make([]schema.Kind, 17), kinds(17, 0), kinds(1, 9),
		{kind("A"), kind("A")}, {kind("A", "x", "x")}, {kind("9")}, {kind("A", "BY")}, {kind("A\xff")}, {kind("A", "")},
		{kind("A", "x,y")}, {kind("A();B")}, {kind("A;")}, {kind("A(")}, {kind("A", ")")},
	} {
		if schema.Right(s) == api.OK {
			t.Errorf("Right(%q) is OK", s)
		}
		if got, ok := schema.Get(schema.Put(s)); ok && schema.Same(got, s) {
			t.Errorf("%q is put and got", s)
		}
	}
}

// P3: no call writes into what is handed in, nor behind it.
func TestNothingIsWritten(t *testing.T) {
	fields := append(names(3), "behind", "behind")
	whole := []schema.Kind{kind("A", fields[:3]...), kind("9", "x", "x"), kind("behind", "z"), kind("A", fields...)}
	whole[0].Fields = fields[:3]
	kept, keptFields := deepCopy(whole), slices.Clone(fields)
	for n := range len(whole) + 1 {
		s := whole[:n]
		schema.Right(s)
		schema.Find(s, "A")
		schema.Find(s, "none")
		schema.Put(s)
		schema.Same(s, whole)
		schema.Same(whole, deepCopy(s))
		for _, k := range s {
			schema.Field(k, "x")
			schema.Field(k, "none")
		}
	}
	if !equal(whole, kept) || !slices.Equal(fields, keptFields) {
		t.Errorf("written: %q, %q; were %q, %q", whole, fields, kept, keptFields)
	}
}

// P3: what is got is the caller's own, spare room too, and no two of its lists share any.
func TestGotIsNewMemory(t *testing.T) {
	text := "A(x,y);B(z,w,v);C();D(u);"
	want := []schema.Kind{kind("A", "x", "y"), kind("B", "z", "w", "v"), kind("C"), kind("D", "u")}
	first, _ := schema.Get(text)
	second, _ := schema.Get(text)
	for i := range first {
		_ = append(first[i].Fields, "written", "written", "written")
	}
	if !equal(first, want) {
		t.Errorf("lists of one answer share memory: %q", first)
	}
	for i := range first {
		all := first[i].Fields[:cap(first[i].Fields)]
		for j := range all {
			all[j] = "written"
		}
	}
	all := first[:cap(first)]
	for i := range all {
		all[i] = kind("written", "written")
	}
	if !equal(second, want) {
		t.Errorf("an answer given earlier has changed: %q", second)
	}
	checkGot(t, text, want)
}

// P4: what is answered hangs on the arguments alone, whatever was asked ahead.
func TestSameAgain(t *testing.T) {
	for range 3 {
		checkGot(t, "A(x);", []schema.Kind{kind("A", "x")})
		checkNoKinds(t, "A(x);A(x);")
		checkRight(t, "again", []schema.Kind{kind("A"), kind("A")}, api.ErrName)
		checkRight(t, "again", []schema.Kind{kind("A"), kind("B")}, api.OK)
		checkName(t, "A", true)
		checkName(t, "BY", false)
	}
}
