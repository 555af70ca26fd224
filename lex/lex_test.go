package lex_test

import (
	"slices"
	"strings"
	"testing"

	"picket/api"
	"picket/lex"
)

const one = api.One

// result is all that Scan answers.
type result struct {
	words     []api.Word
	e         api.Errno
	line, col int
}

func scan(s string) result {
	w, e, line, col := lex.Scan(s)
	return result{w, e, line, col}
}

func (a result) same(b result) bool {
	return slices.Equal(a.words, b.words) && a.e == b.e && a.line == b.line && a.col == b.col
}

func name(s string, line, col int) api.Word {
	return api.Word{Kind: api.WordName, Text: s, Line: line, Col: col}
}

func number(s string, x api.Fix, line, col int) api.Word {
	return api.Word{Kind: api.WordNumber, Text: s, Num: x, Line: line, Col: col}
}

func sign(s string, line, col int) api.Word {
	return api.Word{Kind: api.WordSign, Text: s, Line: line, Col: col}
}

func end(line, col int) api.Word { return api.Word{Kind: api.WordEnd, Line: line, Col: col} }

func words(l ...api.Word) result { return result{words: l} }

func fault(e api.Errno, line, col int) result { return result{e: e, line: line, col: col} }

// short tells a text's beginning, if it is long.
func short(s string) string { return s[:min(len(s), 60)] }

func check(t *testing.T, text string, want result) {
	t.Helper()
	got := scan(text)
	if got.same(want) {
		return
	}
	if len(got.words)+len(want.words) > 40 {
		t.Errorf("Scan(%q..): %d words, %d at %d, %d, not %d words, %d at %d, %d", short(text), len(got.words), got.e, got.line, got.col, len(want.words), want.e, want.line, want.col)
		return
	}
	t.Errorf("Scan(%q): %v, not %v", short(text), got, want)
}

// allSigns are the document's.
func allSigns() []string {
	return []string{"<=", ">=", "=>", "{", "}", "(", ")", "[", "]", ",", ";", ":", "=", "<", ">", "+", "-", "*"}
}

// P501, P502
func TestExamples(t *testing.T) {
	check(t, "x <= 1.5;", words(name("x", 1, 1), sign("<=", 1, 3), number("1.5", 3*one/2, 1, 6), sign(";", 1, 9), end(1, 10)))
	check(t, "a\n 01", fault(api.ErrNumber, 2, 2))
	check(t, "0.1", fault(api.ErrOver, 1, 1))
	check(t, "a $", fault(api.ErrWord, 1, 3))
	check(t, "1.", fault(api.ErrWord, 1, 2))
}

// P501, P502
func TestScanOfASpecification(t *testing.T) {
	check(t, "spec s; # it\n\tsignal a: m[0, 10];\r\nprop p:\n  not once[0, inf] - 2*a >= -0.5;\n", words(
		name("spec", 1, 1), name("s", 1, 6), sign(";", 1, 7),
		name("signal", 2, 2), name("a", 2, 9), sign(":", 2, 10), name("m", 2, 12), sign("[", 2, 13), number("0", 0, 2, 14), sign(",", 2, 15), number("10", 10*one, 2, 17), sign("]", 2, 19), sign(";", 2, 20),
		name("prop", 3, 1), name("p", 3, 6), sign(":", 3, 7),
		name("not", 4, 3), name("once", 4, 7), sign("[", 4, 11), number("0", 0, 4, 12), sign(",", 4, 13), name("inf", 4, 15), sign("]", 4, 18), sign("-", 4, 20), number("2", 2*one, 4, 22), sign("*", 4, 23), name("a", 4, 24), sign(">=", 4, 26), sign("-", 4, 29), number("0.5", one/2, 4, 30), sign(";", 4, 33),
		end(5, 1)))
}

// P501
func TestBlanks(t *testing.T) {
	for _, blank := range []string{" ", "\t", "\r"} {
		check(t, blank, words(end(1, 2)))
		check(t, "a"+blank+"b", words(name("a", 1, 1), name("b", 1, 3), end(1, 4)))
		check(t, "1"+blank+"2", words(number("1", one, 1, 1), number("2", 2*one, 1, 3), end(1, 4)))
		check(t, "<"+blank+"=", words(sign("<", 1, 1), sign("=", 1, 3), end(1, 4)))
		check(t, "1"+blank+".5", fault(api.ErrWord, 1, 3))
		check(t, blank+blank+"a"+blank, words(name("a", 1, 3), end(1, 5)))
	}
	check(t, " \t\r a", words(name("a", 1, 5), end(1, 6)))
}

// P501, P502: a line end begins a line, a byte 13 does not.
func TestLineEnds(t *testing.T) {
	check(t, "\n", words(end(2, 1)))
	check(t, "a\nb", words(name("a", 1, 1), name("b", 2, 1), end(2, 2)))
	check(t, "1\n2", words(number("1", one, 1, 1), number("2", 2*one, 2, 1), end(2, 2)))
	check(t, "<\n=", words(sign("<", 1, 1), sign("=", 2, 1), end(2, 2)))
	check(t, "\n\n\n a\n", words(name("a", 4, 2), end(5, 1)))
	check(t, "a\r\nb\r\n", words(name("a", 1, 1), name("b", 2, 1), end(3, 1)))
	check(t, "a\n\rb", words(name("a", 1, 1), name("b", 2, 2), end(2, 3)))
	check(t, "a\n\n\n\n  $", fault(api.ErrWord, 5, 3))
}

// P501
func TestRemarks(t *testing.T) {
	check(t, "#", words(end(1, 2)))
	check(t, "# x $ 01", words(end(1, 9)))
	check(t, "#\n", words(end(2, 1)))
	check(t, "#\na", words(name("a", 2, 1), end(2, 2)))
	check(t, "a#b\nc", words(name("a", 1, 1), name("c", 2, 1), end(2, 2)))
	check(t, "1#2", words(number("1", one, 1, 1), end(1, 4)))
	check(t, "<#\n=", words(sign("<", 1, 1), sign("=", 2, 1), end(2, 2)))
	check(t, "# a # b\n# c\n #d\ne # f", words(name("e", 4, 1), end(4, 6)))
	check(t, "#a\rb", words(end(1, 5)))
	check(t, "# "+strings.Repeat("x", 60000)+"\n "+strings.Repeat("1", 5), words(number("11111", 11111*one, 2, 2), end(2, 7)))
	check(t, "#x\n$", fault(api.ErrWord, 2, 1))
	for c := range 256 {
		if c == '\n' {
			continue
		}
		check(t, "#"+string([]byte{byte(c)}), words(end(1, 3)))
		check(t, "#"+string([]byte{byte(c), 'x', byte(c), '\n', 'a'}), words(name("a", 2, 1), end(2, 2)))
	}
}

// P501, P502
func TestNames(t *testing.T) {
	for _, s := range []string{"A", "Z", "a", "z", "a0", "z9", "A_", "a__", "aZ_09az", "spec", "inf", "B9Z0"} {
		check(t, s, words(name(s, 1, 1), end(1, 1+len(s))))
		check(t, s+"-"+s, words(name(s, 1, 1), sign("-", 1, 1+len(s)), name(s, 1, 2+len(s)), end(1, 2+2*len(s))))
	}
	check(t, "_a", fault(api.ErrWord, 1, 1))
	check(t, "1a", words(number("1", one, 1, 1), name("a", 1, 2), end(1, 3)))
	check(t, "1.5a_", words(number("1.5", 3*one/2, 1, 1), name("a_", 1, 4), end(1, 6)))
	check(t, "1_", fault(api.ErrWord, 1, 2))
	check(t, "a.b", fault(api.ErrWord, 1, 2))
	check(t, "a1.5", fault(api.ErrWord, 1, 3))
	check(t, "a\xc3\xa9", fault(api.ErrWord, 1, 2))
}

// P501, P502
func TestLongNames(t *testing.T) {
	for _, b := range []string{"a", "Z", "a1", "b_"} {
		s := b + strings.Repeat(b[len(b)-1:], 100000)
		check(t, s[:23], words(name(s[:23], 1, 1), end(1, 24)))
		check(t, s[:24], words(name(s[:24], 1, 1), end(1, 25)))
		check(t, s[:25], fault(api.ErrLong, 1, 1))
		check(t, "\n"+s[:24]+" "+s[:25]+" $", fault(api.ErrLong, 2, 26))
		check(t, s[:65536], fault(api.ErrLong, 1, 1))
	}
}

// P501
func TestNumbers(t *testing.T) {
	for _, c := range []struct {
		s string
		x api.Fix
	}{
		{"0", 0},
		{"7", 7 * one},
		{"10", 10 * one},
		{"0.0", 0},
		{"0.5", one / 2},
		{"3.25", 13 * one / 4},
		{"1.50", 3 * one / 2},
		{"2147483647", 2147483647 * one},
		{"2147483647.99999999976716935634613037109375", api.MaxFix},
		{"0.00000000023283064365386962890625", 1},
		{"0." + strings.Repeat("0", 32), 0},
	} {
		check(t, c.s, words(number(c.s, c.x, 1, 1), end(1, 1+len(c.s))))
		check(t, "-"+c.s+"*", words(sign("-", 1, 1), number(c.s, c.x, 1, 2), sign("*", 1, 2+len(c.s)), end(1, 3+len(c.s))))
	}
}

// P501, P502: the point is the number's only if a digit stands behind it.
func TestPoints(t *testing.T) {
	check(t, "1.", fault(api.ErrWord, 1, 2))
	check(t, "12.x", fault(api.ErrWord, 1, 3))
	check(t, "1. 5", fault(api.ErrWord, 1, 2))
	check(t, "1..5", fault(api.ErrWord, 1, 2))
	check(t, "1.-5", fault(api.ErrWord, 1, 2))
	check(t, ".5", fault(api.ErrWord, 1, 1))
	check(t, ".", fault(api.ErrWord, 1, 1))
	check(t, "1.5.2", fault(api.ErrWord, 1, 4))
	check(t, "1.5.", fault(api.ErrWord, 1, 4))
	check(t, "01.", fault(api.ErrNumber, 1, 1))
}

// P501, P502
func TestNumbersThatAreRefused(t *testing.T) {
	for _, s := range []string{"00", "01", "007", "00.5", "01.1", "12345678901", "0123456789", "12345678901.5", "0." + strings.Repeat("0", 33), "1." + strings.Repeat("5", 33), "0." + strings.Repeat("0", 60000), strings.Repeat("1", 65536), "0.000000000116415321826934814453125"} {
		check(t, s, fault(api.ErrNumber, 1, 1))
	}
	for _, s := range []string{"0.1", "0.3", "2147483648", "9999999999", "2147483648.0", "4294967296", "0.00000000000000000000000000000001", "1.0000000001", "2147483647.9999999999", "9999999999.5"} {
		check(t, s, fault(api.ErrOver, 1, 1))
		check(t, "a\n\n <="+s+";", fault(api.ErrOver, 3, 4))
	}
	check(t, "x >= 01", fault(api.ErrNumber, 1, 6))
}

// P501
func TestSigns(t *testing.T) {
	for _, s := range allSigns() {
		n := len(s)
		check(t, s, words(sign(s, 1, 1), end(1, 1+n)))
		check(t, "a"+s+"1", words(name("a", 1, 1), sign(s, 1, 2), number("1", one, 1, 2+n), end(1, 3+n)))
		check(t, s+" "+s, words(sign(s, 1, 1), sign(s, 1, 2+n), end(1, 2+2*n)))
	}
	check(t, "{}()[],;:=<>+-*", words(sign("{", 1, 1), sign("}", 1, 2), sign("(", 1, 3), sign(")", 1, 4), sign("[", 1, 5), sign("]", 1, 6), sign(",", 1, 7), sign(";", 1, 8), sign(":", 1, 9), sign("=", 1, 10), sign("<", 1, 11), sign(">", 1, 12), sign("+", 1, 13), sign("-", 1, 14), sign("*", 1, 15), end(1, 16)))
}

// P501
func TestTheLongestSignStands(t *testing.T) {
	check(t, "=>=<=<>==", words(sign("=>", 1, 1), sign("=", 1, 3), sign("<=", 1, 4), sign("<", 1, 6), sign(">=", 1, 7), sign("=", 1, 9), end(1, 10)))
	check(t, "<=>", words(sign("<=", 1, 1), sign(">", 1, 3), end(1, 4)))
	check(t, "==>", words(sign("=", 1, 1), sign("=>", 1, 2), end(1, 4)))
	check(t, ">=>", words(sign(">=", 1, 1), sign(">", 1, 3), end(1, 4)))
	check(t, "=<", words(sign("=", 1, 1), sign("<", 1, 2), end(1, 3)))
	check(t, ">>=", words(sign(">", 1, 1), sign(">=", 1, 2), end(1, 4)))
}

// P502: every byte that begins no word, nor says nothing.
func TestBytesThatBeginNoWord(t *testing.T) {
	begins := "abcdefghijklmnopqrstuvwxyzABCDEFGHIJKLMNOPQRSTUVWXYZ0123456789{}()[],;:=<>+-* \t\r\n#"
	for c := range 256 {
		s := string([]byte{byte(c)})
		if strings.Contains(begins, s) {
			if got := scan(s); got.e != api.OK {
				t.Errorf("Scan(%q): %v", s, got)
			}
			continue
		}
		check(t, s, fault(api.ErrWord, 1, 1))
		check(t, "\n "+s+"a", fault(api.ErrWord, 2, 2))
		check(t, "; "+s+s, fault(api.ErrWord, 1, 3))
		if c != '_' && c != '.' {
			check(t, "ab"+s, fault(api.ErrWord, 1, 3))
			check(t, "12"+s+"5", fault(api.ErrWord, 1, 3))
		}
	}
}

// P502
func TestLongTexts(t *testing.T) {
	check(t, strings.Repeat(" ", 65536), words(end(1, 65537)))
	check(t, strings.Repeat("\n", 65536), words(end(65537, 1)))
	check(t, strings.Repeat("#", 65536), words(end(1, 65537)))
	check(t, strings.Repeat(" ", 65533)+"a $", fault(api.ErrWord, 1, 65536))
	many := make([]api.Word, 0, 65537)
	for i := range 65536 {
		many = append(many, sign(";", 1, 1+i))
	}
	check(t, strings.Repeat(";", 65536), words(append(many, end(1, 65537))...))
	for _, s := range []string{" ", "\n", "#", ";", "a", "1", "$", "a\n", "\xff"} {
		long := strings.Repeat(s, 70000)
		check(t, long[:65537], fault(api.ErrLong, 0, 0))
		check(t, long, fault(api.ErrLong, 0, 0))
	}
}

// P502
func TestEmptyText(t *testing.T) {
	check(t, "", words(end(1, 1)))
}

// P502: of several faults the first one from the left.
func TestTheFirstFaultTells(t *testing.T) {
	faults := []struct {
		s string
		e api.Errno
	}{{"$", api.ErrWord}, {"\xff", api.ErrWord}, {"01", api.ErrNumber}, {"0.1", api.ErrOver}, {strings.Repeat("a", 25), api.ErrLong}}
	for _, a := range faults {
		for _, b := range faults {
			check(t, a.s+" "+b.s, fault(a.e, 1, 1))
			check(t, "x;\n y "+a.s+"\n"+b.s, fault(a.e, 2, 4))
		}
	}
}

// Each answer is a list of its own.
func TestScanAnswersNewLists(t *testing.T) {
	a, b := scan("a 1 ;"), scan("a 1 ;")
	for i := range a.words {
		a.words[i] = api.Word{Kind: -1}
	}
	if want := words(name("a", 1, 1), number("1", one, 1, 3), sign(";", 1, 5), end(1, 6)); !b.same(want) {
		t.Errorf("another answer changed: %v", b)
	}
}

// P503
func TestIsName(t *testing.T) {
	for _, s := range []string{"a", "A", "z", "Z", "a0", "Z9_", "a_", "spec", "inf", strings.Repeat("a", 24), "a" + strings.Repeat("_", 23)} {
		if !lex.IsName(s) {
			t.Errorf("IsName(%q) is false", s)
		}
	}
	for _, s := range []string{"", "_", "_a", "1", "1a", "a b", " a", "a ", "a\n", "\na", "a#", "#", "a.b", "a-b", "a;", "<=", "a\x00", "\x00a", "\xc3\xa9", "a\xc3\xa9", "a\x7f", strings.Repeat("a", 25), strings.Repeat("a", 24) + " ", strings.Repeat("a", 1<<20)} {
		if lex.IsName(s) {
			t.Errorf("IsName(%q) is true", short(s))
		}
	}
}
