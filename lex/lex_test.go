package lex_test

import (
	"math"
	"math/big"
	"slices"
	"strconv"
	"strings"
	"testing"
	"unicode/utf8"

	"jettison/api"
	"jettison/lex"
	"jettison/schema"
)

// signs: as the chapter writes them, held against what the package tells.
func signs() []string {
	return strings.Fields("; ! | ( ) { } , [ ] . + - * / % < > == != <= >= && ||")
}

func name(text string, at int) lex.Token {
	return lex.Token{Kind: lex.Name, Text: text, At: at}
}

func number(n int64, at int) lex.Token {
	return lex.Token{Kind: lex.Number, Text: strconv.FormatInt(n, 10), N: n, At: at}
}

func sign(text string, at int) lex.Token {
	return lex.Token{Kind: lex.Sign, Text: text, At: at}
}

func key(text string, at int) lex.Token {
	return lex.Token{Kind: lex.Key, Text: text, At: at}
}

// checkWords: s has just these words.
func checkWords(t *testing.T, s string, want ...lex.Token) {
	t.Helper()
	got, at, e := lex.All(s)
	if !slices.Equal(got, want) || at != len(s) || e != api.OK {
		t.Errorf("All(%q) = %v, %d, %d; want %v, %d, OK", s, got, at, e, want, len(s))
	}
}

// checkWrong: the word of s that begins at want is the first that is none.
func checkWrong(t *testing.T, s string, want int) {
	t.Helper()
	if got, at, e := lex.All(s); len(got) != 0 || at != want || e != api.ErrLex {
		t.Errorf("All(%q) = %v, %d, %d; want nothing, %d, ErrLex", s, got, at, e, want)
	}
}

func checkTooLong(t *testing.T, what, s string) {
	t.Helper()
	if got, at, e := lex.All(s); len(got) != 0 || at != 2048 || e != api.ErrLimit {
		t.Errorf("%s, %d bytes: All = %d words, %d, %d; want none, 2048, ErrLimit", what, len(s), len(got), at, e)
	}
}

// letters: how many bytes of s, from its beginning on, are runes that may begin a name, or, with digits, stand in one.
func letters(s string, digits bool) int {
	n := 0
	for n < len(s) {
		r, width := utf8.DecodeRuneInString(s[n:])
		ascii := strings.IndexByte("abcdefghijklmnopqrstuvwxyzABCDEFGHIJKLMNOPQRSTUVWXYZ_", s[n]) >= 0
		wide := r >= 0x80 && !(r == utf8.RuneError && width == 1)
		if !ascii && !wide && !(digits && s[n] >= '0' && s[n] <= '9') {
			break
		}
		n += width
	}
	return n
}

// expected: the words of s by the chapter's words alone, each cut from what is left ahead of the next.
func expected(s string) (l []lex.Token, at int, e api.Errno) {
	if len(s) > 2048 {
		return nil, 2048, api.ErrLimit
	}
	for at < len(s) {
		rest := s[at:]
		if strings.IndexByte("\t\n\r ", rest[0]) >= 0 {
			at++
			continue
		}
		t := lex.Token{At: at}
		if letters(rest, false) > 0 {
			t.Kind, t.Text = lex.Name, rest[:letters(rest, true)]
			if t.Text == "WITHIN" || t.Text == "BY" {
				t.Kind = lex.Key
			} else if len(t.Text) > 24 {
				return nil, at, api.ErrLex
			}
		} else if digits := len(rest) - len(strings.TrimLeft(rest, "0123456789")); digits > 0 {
			t.Kind, t.Text = lex.Number, rest[:digits]
			n, _ := new(big.Int).SetString(t.Text, 10)
			if n.String() != t.Text || !n.IsInt64() {
				return nil, at, api.ErrLex
			}
			t.N = n.Int64()
		} else {
			t.Kind = lex.Sign
			for _, one := range signs() {
				if strings.HasPrefix(rest, one) && len(one) > len(t.Text) {
					t.Text = one
				}
			}
			if t.Text == "" {
				return nil, at, api.ErrLex
			}
		}
		l = append(l, t)
		at += len(t.Text)
	}
	return l, len(s), api.OK
}

func checkExpected(t *testing.T, s string) {
	t.Helper()
	want, wantAt, wantE := expected(s)
	got, at, e := lex.All(s)
	if !slices.Equal(got, want) || at != wantAt || e != wantE {
		t.Fatalf("All(%q) = %v, %d, %d; want %v, %d, %d", s, got, at, e, want, wantAt, wantE)
	}
}

// longer: each of l, with each of parts behind it.
func longer(l, parts []string) []string {
	var told []string
	for _, s := range l {
		for _, part := range parts {
			told = append(told, s+part)
		}
	}
	return told
}

// noRunes: bytes that are no rune in UTF-8, or begin with such.
func noRunes() []string {
	return []string{
		"\x80", "\xbf", "\xfe", "\xff", "\xc3", "\xe6", "\xe6\x97", "\xf0\x9f\x98", "\xef\xbf",
		"\xc0\x80", "\xc0\xbb", "\xc0\xa0", "\xc1\x81", "\xe0\x80\x80", "\xe0\x9f\xbf", "\xf0\x80\x80\x80", "\xf0\x8f\xbf\xbf",
		"\xed\xa0\x80", "\xed\xbf\xbf", "\xed\xa0\x80\xed\xb0\x80", "\xf4\x90\x80\x80", "\xf5\x80\x80\x80", "\xf8\x88\x80\x80\x80",
		"\xc3a", "\xc3;", "\xe6\x97 ", "\xbd\xbf\xef",
	}
}

// P6.1: all of them, in their order.
func TestSigns(t *testing.T) {
	if got := lex.Signs(); !slices.Equal(got, signs()) || len(got) != 24 {
		t.Errorf("Signs() = %q", got)
	}
}

// P6.1, P3: each answer is the caller's own, spare room too.
func TestSignsIsNewMemory(t *testing.T) {
	first, second := lex.Signs(), lex.Signs()
	all := first[:cap(first)]
	for i := range all {
		all[i] = "written"
	}
	if !slices.Equal(second, signs()) || !slices.Equal(lex.Signs(), signs()) {
		t.Errorf("Signs() = %q, once written into", lex.Signs())
	}
	checkWords(t, "a<=1", name("a", 0), sign("<=", 1), number(1, 3))
	checkWrong(t, "a written $", 10)
}

// P6.1: just these four bytes, of all, are passed by.
func TestSpace(t *testing.T) {
	for b := range 128 {
		s := string(rune(b))
		got, at, e := lex.All(s)
		passed := len(got) == 0 && at == 1 && e == api.OK
		if want := b == 9 || b == 10 || b == 13 || b == 32; passed != want {
			t.Errorf("byte %d: is it space? %t; want %t", b, passed, want)
		}
	}
	for _, space := range []string{"\t", "\n", "\r", " ", "\r\n", " \t\n\r", strings.Repeat("\t ", 40)} {
		n := len(space)
		checkWords(t, space)
		checkWords(t, space+"a", name("a", n))
		checkWords(t, "a"+space, name("a", 0))
		checkWords(t, "a"+space+"b", name("a", 0), name("b", n+1))
		checkWords(t, "1"+space+"2", number(1, 0), number(2, n+1))
		checkWords(t, "<"+space+">"+space, sign("<", 0), sign(">", n+1))
		checkWords(t, "|"+space+"|", sign("|", 0), sign("|", n+1))
		checkWords(t, "B"+space+"Y", name("B", 0), name("Y", n+1))
	}
	for _, none := range []string{"\v", "\f", "\x00", "\b", "\x0e", "\x1f", "\x7f"} {
		checkWrong(t, none, 0)
		checkWrong(t, "a "+none+" b", 2)
	}
	// From 0x80 on a rune is a part of a name, whatever it looks like.
	for _, wide := range []string{"\u0085", "\u00a0", "\u2003", "\u2028", "\u3000", "\ufeff"} {
		checkWords(t, "a"+wide+"b", name("a"+wide+"b", 0))
		checkWords(t, wide, name(wide, 0))
	}
}

// P6.2: the kinds are numbered from 1 on, as they are listed.
func TestKinds(t *testing.T) {
	if lex.Name != 1 || lex.Number != 2 || lex.Sign != 3 || lex.Key != 4 {
		t.Error(lex.Name, lex.Number, lex.Sign, lex.Key)
	}
}

// P6.2: ordinary words, the chapter's example ahead.
func TestAll(t *testing.T) {
	checkWords(t, "a<=1", name("a", 0), sign("<=", 1), number(1, 3))
	checkWords(t, "")
	checkWords(t, "x", name("x", 0))
	checkWords(t, "7", number(7, 0))
	checkWords(t, ";", sign(";", 0))
	checkWords(t, "BY", key("BY", 0))
	checkWords(t, "A a ; !B b[b.x==10] ;\n(C c{1,3}|D d) WITHIN 500 BY x",
		name("A", 0), name("a", 2), sign(";", 4), sign("!", 6), name("B", 7), name("b", 9), sign("[", 10), name("b", 11), sign(".", 12),
		name("x", 13), sign("==", 14), number(10, 16), sign("]", 18), sign(";", 20), sign("(", 22), name("C", 23), name("c", 25),
		sign("{", 26), number(1, 27), sign(",", 28), number(3, 29), sign("}", 30), sign("|", 31), name("D", 32), name("d", 34),
		sign(")", 35), key("WITHIN", 37), number(500, 44), key("BY", 48), name("x", 51))
	checkWords(t, "é日<\U0001f600", name("é日", 0), sign("<", 5), name("\U0001f600", 6))
	checkWords(t, "a1 1a", name("a1", 0), number(1, 3), name("a", 4))
	checkWords(t, "WITHIN5", name("WITHIN5", 0))
	checkWords(t, "5WITHIN", number(5, 0), key("WITHIN", 1))
}

// P6.2: every rune, alone, and behind a word of each kind.
func TestEveryRune(t *testing.T) {
	for r := rune(0); r <= 0x10ffff; r++ {
		if r >= 0xd800 && r <= 0xdfff {
			continue
		}
		one := string(r)
		if r < 0x900 || r > 0x10ff00 || r >= 0xd700 && r < 0xe100 || r >= 0xfd00 && r <= 0x10010 {
			for _, ahead := range []string{"", "a", "1", "0", "<", "=", "&", ";", "é", " "} {
				checkExpected(t, ahead+one)
				checkExpected(t, ahead+one+"9")
			}
			continue
		}
		if got, at, e := lex.All(one); len(got) != 1 || got[0] != name(one, 0) || at != len(one) || e != api.OK {
			t.Errorf("All(%q) = %v, %d, %d", one, got, at, e)
		}
		if got, _, e := lex.All("a" + one); len(got) != 1 || got[0] != name("a"+one, 0) || e != api.OK {
			t.Errorf("All(%q) = %v, %d", "a"+one, got, e)
		}
	}
}

// P6.2: the length of a name is of bytes; what is too long is wrong where it begins.
func TestNamesAtTheirLength(t *testing.T) {
	for _, one := range []string{"z", "Z", "_", "é", "日", "\U0001f600", "\ufffd"} {
		for n := 1; n <= 60; n++ {
			s := strings.Repeat(one, n)
			if len(s) <= 24 {
				checkWords(t, s, name(s, 0))
				checkWords(t, "1 "+s+";", number(1, 0), name(s, 2), sign(";", 2+len(s)))
			} else {
				checkWrong(t, s, 0)
				checkWrong(t, "1 "+s+";", 2)
				checkWrong(t, "a;"+s+" b", 2)
			}
		}
	}
	digits := "x" + strings.Repeat("9", 23)
	checkWords(t, digits, name(digits, 0))
	checkWrong(t, digits+"9", 0)
	checkWrong(t, digits+"a", 0)
	checkWords(t, digits+" 9", name(digits, 0), number(9, 25))
	checkWrong(t, strings.Repeat("z", 23)+"é", 0)
	checkWrong(t, " "+strings.Repeat("z", 2000), 1)
	checkWrong(t, strings.Repeat("z", 24)+" "+strings.Repeat("y", 25), 25)
}

// P6.2: keys are just these two words, in just these letters.
func TestKeys(t *testing.T) {
	for _, s := range []string{"WITHIN", "BY"} {
		checkWords(t, s, key(s, 0))
		checkWords(t, " "+s+"\n"+s, key(s, 1), key(s, 2+len(s)))
		checkWords(t, "1"+s+"<"+s+".", number(1, 0), key(s, 1), sign("<", 1+len(s)), key(s, 2+len(s)), sign(".", 2+2*len(s)))
		for _, near := range []string{s + "_", "_" + s, s + "1", s + "é", "é" + s, s + s, s[1:], s[:len(s)-1],
			strings.ToLower(s), s[:1] + strings.ToLower(s[1:]), s + "\ufffd"} {
			checkWords(t, near, name(near, 0))
		}
	}
	checkWords(t, "WITHINBY", name("WITHINBY", 0))
	checkWrong(t, "WITHIN"+strings.Repeat("_", 19), 0)
	checkWrong(t, strings.Repeat("BY", 13), 0)
}

// P6.2: numbers from 0 to 2^63 less 1.
func TestNumbers(t *testing.T) {
	for _, n := range []int64{0, 1, 9, 10, 90, 99, 100, 101, 255, 256, 1000000000, math.MaxInt32, math.MaxInt32 + 1, 1 << 53, 1<<53 + 1,
		999999999999999999, 1000000000000000000, math.MaxInt64 - 1, math.MaxInt64} {
		checkWords(t, strconv.FormatInt(n, 10), number(n, 0))
	}
	for bit := range 63 {
		checkWords(t, " "+strconv.FormatInt(1<<bit, 10), number(1<<bit, 1))
	}
	for n := range int64(3000) {
		checkWords(t, strconv.FormatInt(n, 10), number(n, 0))
	}
}

// P6.2: numbers that are too great, also such as would be small ones if bits of them were let go.
func TestNumbersThatAreTooGreat(t *testing.T) {
	for _, s := range []string{"9223372036854775808", "9223372036854775809", "9223372036854775810", "9300000000000000000",
		"9999999999999999999", "10000000000000000000", "18446744073709551615", "18446744073709551616", "18446744073709551617",
		"36893488147419103233", "99999999999999999999", "340282366920938463463374607431768211457",
		strings.Repeat("9", 400), "1" + strings.Repeat("0", 2000)} {
		checkWrong(t, s, 0)
		checkWrong(t, "a<"+s, 2)
		checkWrong(t, s+" $", 0)
		checkWrong(t, s+"a", 0)
	}
	for shift := uint(63); shift < 200; shift++ {
		s := new(big.Int).Lsh(big.NewInt(1), shift).String()
		checkWrong(t, "1 "+s, 2)
	}
}

// P6.2: a 0 ahead of another digit, and ahead of what is none.
func TestNumbersWithAZeroAhead(t *testing.T) {
	for _, s := range []string{"00", "01", "09", "007", "000", "010", "00000000000000000000000001", "09223372036854775807", strings.Repeat("0", 2048)} {
		checkWrong(t, s, 0)
	}
	checkWrong(t, "1 00", 2)
	checkWrong(t, "a.x<01]", 4)
	checkWrong(t, "0 0 01", 4)
	checkWords(t, "0", number(0, 0))
	checkWords(t, "0 0", number(0, 0), number(0, 2))
	checkWords(t, "0a", number(0, 0), name("a", 1))
	checkWords(t, "0x10", number(0, 0), name("x10", 1))
	checkWords(t, "0b1", number(0, 0), name("b1", 1))
	checkWords(t, "0_0", number(0, 0), name("_0", 1))
	checkWords(t, "a00", name("a00", 0))
	checkWords(t, "0.0", number(0, 0), sign(".", 1), number(0, 2))
}

// P6.2: a number is of digits alone; what else numbers are written with are words of their own.
func TestWhatEndsANumber(t *testing.T) {
	checkWords(t, "-1", sign("-", 0), number(1, 1))
	checkWords(t, "+1", sign("+", 0), number(1, 1))
	checkWords(t, "-9223372036854775807", sign("-", 0), number(math.MaxInt64, 1))
	checkWrong(t, "-9223372036854775808", 1)
	checkWords(t, "1_000", number(1, 0), name("_000", 1))
	checkWords(t, "1e5", number(1, 0), name("e5", 1))
	checkWords(t, "1.5", number(1, 0), sign(".", 1), number(5, 2))
	checkWrong(t, "1,000", 2)
	// Digits of other scripts are runes from 0x80 on.
	checkWords(t, "1\u0662", number(1, 0), name("\u0662", 1))
	checkWords(t, "\uff11", name("\uff11", 0))
}

// P6.2: bytes that are no rune begin nothing, and go on with nothing; U+FFFD is a rune as any other.
func TestBytesThatAreNoRune(t *testing.T) {
	for _, bad := range noRunes() {
		checkWrong(t, bad, 0)
		checkWrong(t, " "+bad, 1)
		for _, ahead := range []string{"a", "BY", "é", "\ufffd", "日9", "1", "0", "<", "==", "|", "!", ";", strings.Repeat("z", 24)} {
			checkWrong(t, ahead+bad, len(ahead))
			checkWrong(t, ahead+bad+"a", len(ahead))
			checkWrong(t, ahead+bad+"\ufffd", len(ahead))
			checkWrong(t, ahead+" "+bad+" "+ahead, len(ahead)+1)
		}
		checkWrong(t, strings.Repeat("z", 25)+bad, 0)
		checkWrong(t, "01"+bad, 0)
		checkWrong(t, "="+bad, 0)
	}
	for b := 0x80; b <= 0xff; b++ {
		one := string([]byte{byte(b)})
		checkWrong(t, one, 0)
		checkWrong(t, "a"+one, 1)
		checkWrong(t, "\ufffd"+one, 3)
	}
	for _, s := range []string{"\ufffd", "\xef\xbf\xbd", "a\ufffd", "\ufffd9", "\ufffd\ufffd", strings.Repeat("\ufffd", 8)} {
		checkWords(t, s, name(s, 0))
		checkWords(t, "1"+s+"<", number(1, 0), name(s, 1), sign("<", 1+len(s)))
	}
	checkWrong(t, strings.Repeat("\ufffd", 9), 0)
}

// P6.2: each sign, alone and between other words.
func TestAllOfSigns(t *testing.T) {
	for _, s := range signs() {
		n := len(s)
		checkWords(t, s, sign(s, 0))
		checkWords(t, "a"+s+"b", name("a", 0), sign(s, 1), name("b", 1+n))
		checkWords(t, "1"+s+"2", number(1, 0), sign(s, 1), number(2, 1+n))
		checkWords(t, s+" "+s, sign(s, 0), sign(s, n+1))
		checkWords(t, "BY"+s+"é", key("BY", 0), sign(s, 2), name("é", 2+n))
	}
}

// P6.2: the longest one is taken, from the left on.
func TestTheLongestSign(t *testing.T) {
	checkWords(t, "<=<", sign("<=", 0), sign("<", 2))
	checkWords(t, "<<=", sign("<", 0), sign("<=", 1))
	checkWords(t, "<>=", sign("<", 0), sign(">=", 1))
	checkWords(t, "!!=", sign("!", 0), sign("!=", 1))
	checkWords(t, "!===", sign("!=", 0), sign("==", 2))
	checkWords(t, "====", sign("==", 0), sign("==", 2))
	checkWords(t, "|||", sign("||", 0), sign("|", 2))
	checkWords(t, "||||", sign("||", 0), sign("||", 2))
	checkWords(t, "&&&&", sign("&&", 0), sign("&&", 2))
	checkWords(t, "| |", sign("|", 0), sign("|", 2))
	checkWords(t, "! ==", sign("!", 0), sign("==", 2))
	checkWords(t, ";;", sign(";", 0), sign(";", 1))
	checkWords(t, "..", sign(".", 0), sign(".", 1))
	checkWords(t, "([{}])", sign("(", 0), sign("[", 1), sign("{", 2), sign("}", 3), sign("]", 4), sign(")", 5))
	checkWords(t, "--", sign("-", 0), sign("-", 1))
}

// P6.2: signs that are none, and what begins like one.
func TestSignsThatAreNone(t *testing.T) {
	for _, s := range []string{"=", "&", "$", "#", "@", "?", ":", "~", "^", "\\", "`", "'", "\"", "\x00", "\x7f"} {
		checkWrong(t, s, 0)
		checkWrong(t, s+"a", 0)
		checkWrong(t, "a"+s, 1)
		checkWrong(t, "1"+s+"1", 1)
		checkWrong(t, "a "+s+" b", 2)
		checkWrong(t, "<="+s, 2)
		checkWrong(t, ";"+s+";", 1)
	}
	for s, at := range map[string]int{"= =": 0, "& &": 0, "=<": 0, "=>": 0, "=!": 0, "&|": 0, "&=": 0, "=&&": 0, "&==": 0,
		"===": 2, "&&&": 2, "!==": 2, "<==": 2, ">==": 2, "|=": 1, "||=": 2, "+=": 1, "(=": 1, "=\xff": 0, "=é": 0, "&é": 0} {
		checkWrong(t, s, at)
	}
}

// P6.2: every two and three signs, and halves of signs, one right behind the other.
func TestSignsTogether(t *testing.T) {
	parts := append(signs(), "=", "&", "a", "1", " ")
	texts := []string{""}
	for range 3 {
		texts = longer(texts, parts)
		for _, s := range texts {
			checkExpected(t, s)
		}
	}
}

// P6.2: all texts of up to five bytes, of bytes that tell the kinds of words, and what is none, apart.
func TestShortTexts(t *testing.T) {
	parts := strings.Split("a_09 \n<=!|&;$\xc3\xa9\xff", "")
	texts := []string{""}
	for range 5 {
		texts = longer(texts, parts)
		for _, s := range texts {
			checkExpected(t, s)
		}
	}
}

// P6.2, P2: the first wrong word is told, whatever is wrong behind it; what is right ahead of it is not told.
func TestTheFirstWrongWord(t *testing.T) {
	wrong := []string{"$", "01", "9223372036854775808", strings.Repeat("z", 25), "\xff", "=", "\x00", "&"}
	for _, first := range wrong {
		for _, second := range wrong {
			checkWrong(t, first+" "+second, 0)
			checkWrong(t, "a 1 <= WITHIN "+first+" b "+second+" c", 14)
		}
	}
}

// P6.2: as many bytes as there may be, and one more, and far more.
func TestTextsThatAreTooLong(t *testing.T) {
	for _, part := range []string{" ", "\n", ";", "a ", "1 ", "WITHIN ", "é,", "日本<= ", "9223372036854775807 ", strings.Repeat("z", 24) + "|"} {
		fill := strings.Repeat(part, 2048/len(part))
		fill += strings.Repeat(" ", 2048-len(fill))
		for _, s := range []string{fill[len(part):], fill[len(part):] + " ", fill} {
			got, at, e := lex.All(s)
			want, _, _ := expected(s)
			if !slices.Equal(got, want) || at != len(s) || e != api.OK {
				t.Errorf("%d bytes of %q: %d words, %d, %d", len(s), part, len(got), at, e)
			}
		}
		for _, behind := range []string{" ", "\t", ";", "  ", " a", " BY", " 0", ";;;", fill, strings.Repeat(" ", 1<<20)} {
			checkTooLong(t, part, fill+behind)
		}
	}
	checkTooLong(t, "space", strings.Repeat(" ", 2049))
	checkTooLong(t, "words without number", strings.Repeat("a ", 1<<20))
	// Bytes are counted, not runes.
	wide := strings.Repeat("日本;", 292) + "; ;;"
	if got, at, e := lex.All(wide); len(got) != 587 || at != 2048 || e != api.OK {
		t.Errorf("%d bytes: %d words, %d, %d", len(wide), len(got), at, e)
	}
	checkTooLong(t, "wide", wide+";")
}

// P6.2: a text that is too long is told so, whatever words it has, and wherever these stand; one that is not tells the
// wrong word, to its end.
func TestWrongWordsOfTextsThatAreTooLong(t *testing.T) {
	for _, wrong := range []string{"$", "01", "9223372036854775808", strings.Repeat("z", 25), "\xff", "="} {
		for _, at := range []int{0, 1, 2000, 2046, 2047, 2048, 2049, 5000} {
			checkTooLong(t, wrong, strings.Repeat(" ", at)+wrong+strings.Repeat(" ", 2049))
			checkTooLong(t, wrong, strings.Repeat(";", at)+wrong+strings.Repeat(" a", 2049))
		}
		for at := 0; at+len(wrong) <= 2048; at += 2048 - len(wrong) {
			full := strings.Repeat(";", at) + wrong + strings.Repeat(" ", 2048-at-len(wrong))
			checkWrong(t, full, at)
			checkTooLong(t, wrong, full+" ")
			checkTooLong(t, wrong, " "+full)
		}
		checkTooLong(t, wrong, strings.Repeat(" ", 2048)+wrong)
	}
	checkWrong(t, strings.Repeat("z", 2048), 0)
	checkTooLong(t, "one name", strings.Repeat("z", 2049))
	checkWrong(t, strings.Repeat("1", 2048), 0)
	checkTooLong(t, "one number", strings.Repeat("1", 1<<20))
}

// mixed: texts of words of all kinds, with and without space between, the same ones at each run.
func mixed(n int) []string {
	parts := append(signs(), "a", "é9", "日本", "_", "\ufffd", "x"+strings.Repeat("9", 11), "WITHIN", "BY", "BYE", "0", "7", "10",
		"9223372036854775807", " ", "\n", "\t ", "\r\n")
	state := uint32(1)
	var l []string
	for range n {
		s := ""
		for len(s) < 200 {
			state = state*1664525 + 1013904223
			s += parts[int(state>>8)%len(parts)]
		}
		l = append(l, s)
	}
	return l
}

// P6.3: words put with a space between are the same words, each where it stands now.
func TestWordsPutWithASpace(t *testing.T) {
	texts := append(mixed(3000), "", " ", "12a", "a<=1", "|||", "<=<!=!", "0x10", "BYE1BY WITHINx", "1_0", "é1;é 1", "==&&==")
	seen := 0
	for _, s := range texts {
		checkExpected(t, s)
		words, _, e := lex.All(s)
		if e != api.OK {
			continue
		}
		seen++
		var put []string
		want := slices.Clone(words)
		for i, at := 0, 0; i < len(words); i++ {
			put = append(put, words[i].Text)
			want[i].At = at
			at += len(words[i].Text) + 1
		}
		checkWords(t, strings.Join(put, " "), want...)
	}
	if seen < 300 {
		t.Errorf("only %d texts were of words", seen)
	}
}

// P6.2, P6.3: words that are made one by one are told as they were made.
func TestWordsOfEachKind(t *testing.T) {
	made := []lex.Token{key("WITHIN", 0), key("BY", 0), number(0, 0), number(math.MaxInt64, 0), name("a", 0), name(strings.Repeat("é", 12), 0)}
	for _, s := range signs() {
		made = append(made, sign(s, 0))
	}
	for _, a := range made {
		for _, b := range made {
			for _, c := range made {
				b.At = len(a.Text) + 1
				c.At = b.At + len(b.Text) + 1
				checkWords(t, a.Text+" "+b.Text+" "+c.Text, a, b, c)
			}
		}
	}
}

// P6.2: what is told of a Name is a name of chapter 4, and what is a name there is one word.
func TestNamesAreThoseOfTheSchema(t *testing.T) {
	for _, s := range longer(longer(longer([]string{""}, noRunes()[:8]), []string{"", "a", "é", "\ufffd", "9"}), []string{"", "_", "BY", " "}) {
		for _, text := range []string{s, "a" + s, s[len(s)-1:], strings.ToValidUTF8(s, "\ufffd"), strings.ToValidUTF8(s, "")} {
			got, _, _ := lex.All(text)
			one := len(got) == 1 && got[0] == name(text, 0)
			if one != schema.IsName(text) {
				t.Errorf("All(%q) = %v, and IsName is %t", text, got, !one)
			}
		}
	}
}

// P3: what is told is the caller's own, spare room too.
func TestWordsAreNewMemory(t *testing.T) {
	const s = "A a ; B b[a.x <= 3]"
	want, _, _ := expected(s)
	first, _, _ := lex.All(s)
	second, _, _ := lex.All(s)
	all := first[:cap(first)]
	for i := range all {
		all[i] = name("written", 9)
	}
	if !slices.Equal(second, want) {
		t.Errorf("an answer given earlier has changed: %v", second)
	}
	checkWords(t, s, want...)
}

// P4: what is answered hangs on the text alone, whatever was asked ahead.
func TestSameAgain(t *testing.T) {
	for range 3 {
		checkWords(t, "a BY", name("a", 0), key("BY", 2))
		checkWrong(t, "a BY $", 5)
		checkTooLong(t, "again", strings.Repeat(" ", 2049))
		checkWords(t, "")
	}
}
