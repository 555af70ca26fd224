package lex_test

import (
	"errors"
	"math/big"
	"regexp"
	"strings"
	"testing"

	"picket/api"
	"picket/lex"
)

// The document's words by other means: patterns, and fractions of any size.
var (
	idle    = regexp.MustCompile(`^(?:[ \t\r\n]|#[^\n]*)+`)
	aName   = regexp.MustCompile(`^[A-Za-z][A-Za-z0-9_]*`)
	aNumber = regexp.MustCompile(`^[0-9]+(?:\.[0-9]+)?`)
	aSign   = regexp.MustCompile(`^(?:<=|>=|=>|[{}()\[\],;:=<>+*-])`)
	aFix    = regexp.MustCompile(`^(?:0|[1-9][0-9]{0,9})(?:\.[0-9]{1,32})?$`)
	one24   = regexp.MustCompile(`\A[A-Za-z][A-Za-z0-9_]{0,23}\z`)
)

// bytewise tells bytes as runes of the same numbers, so that patterns look at bytes one by one.
func bytewise(s string) string {
	var b strings.Builder
	for i := range len(s) {
		b.WriteRune(rune(s[i]))
	}
	return b.String()
}

// fixOf tells the number of a text by fractions.
func fixOf(s string) (api.Fix, api.Errno) {
	if !aFix.MatchString(s) {
		return 0, api.ErrNumber
	}
	x, ok := new(big.Rat).SetString(s)
	if !ok {
		panic(errors.New("no number: " + s))
	}
	x.Mul(x, new(big.Rat).SetInt64(int64(api.One)))
	if !x.IsInt() || !x.Num().IsInt64() {
		return 0, api.ErrOver
	}
	return int(x.Num().Int64()), api.OK
}

// place tells the line and column at which a text's bytes end.
func place(s string) (int, int) {
	return 1 + strings.Count(s, "\n"), len([]rune(s)) - len([]rune(s[:strings.LastIndex(s, "\n")+1])) + 1
}

// model is Scan of a short text by patterns.
func model(text string) result {
	text = bytewise(text)
	var r result
	at := 0
	for {
		at += len(idle.FindString(text[at:]))
		line, col := place(text[:at])
		w := api.Word{Line: line, Col: col}
		if at == len(text) {
			return words(append(r.words, w)...)
		}
		e := api.ErrWord
		if s := aName.FindString(text[at:]); s != "" {
			w.Kind, w.Text, e = api.WordName, s, api.OK
			if len(s) > 24 {
				e = api.ErrLong
			}
		} else if s := aNumber.FindString(text[at:]); s != "" {
			w.Kind, w.Text = api.WordNumber, s
			w.Num, e = fixOf(s)
		} else if s := aSign.FindString(text[at:]); s != "" {
			w.Kind, w.Text, e = api.WordSign, s, api.OK
		}
		if e != api.OK {
			return fault(e, line, col)
		}
		r.words = append(r.words, w)
		at += len(w.Text)
	}
}

// strewn tells numbers that look like chance, and are the same each time.
func strewn(seed uint64) func(int) int {
	return func(n int) int {
		seed = seed*6364136223846793005 + 1442695040888963407
		return int(seed>>33) % n
	}
}

// P501, P502: all short texts of bytes that stand for their kinds.
func TestScanOfAllShortTexts(t *testing.T) {
	kinds := []string{"a", "_", "0", "1", "5", ".", "<", "=", ">", "-", " ", "\n", "#", "$", "\xff"}
	texts := []string{""}
	for range 4 {
		var longer []string
		for _, s := range texts {
			for _, k := range kinds {
				longer = append(longer, s+k)
			}
		}
		for _, s := range longer {
			check(t, s, model(s))
		}
		texts = longer
	}
}

// P501, P502: pieces behind one another, few of which are at fault.
func TestScanOfStrewnPieces(t *testing.T) {
	pieces := append(allSigns(), "a", "Bc_9", "x", "inf", strings.Repeat("n", 24), strings.Repeat("n", 13), "0", "1", "10", "1.5", "0.25", "2147483647", "0.00000000023283064365386962890625", "# r\n", "#\n", "\n", " ", "\t", "\r\n", " ", " ", "  ", "0.1", ".", "$", "\x80", "7")
	next := strewn(1)
	for range 20000 {
		var b strings.Builder
		for range next(12) {
			b.WriteString(pieces[next(len(pieces))])
		}
		check(t, b.String(), model(b.String()))
	}
}

// P501, P502: any bytes.
func TestScanOfStrewnBytes(t *testing.T) {
	next := strewn(2)
	for range 20000 {
		b := make([]byte, next(10))
		for i := range b {
			b[i] = byte(next(256))
		}
		check(t, string(b), model(string(b)))
	}
}

// P503: one byte of a name is turned into each other one, and names of all lengths.
func TestIsNameOfAllBytes(t *testing.T) {
	for n := range 30 {
		for at := range n {
			for c := range 256 {
				b := []byte(strings.Repeat("a", n))
				b[at] = byte(c)
				if got, want := lex.IsName(string(b)), one24.MatchString(bytewise(string(b))); got != want {
					t.Errorf("IsName(%q): %v", b, got)
				}
			}
		}
	}
}

// P503: a name is what Scan tells as one.
func TestIsNameIsWhatScanTells(t *testing.T) {
	next := strewn(3)
	for range 20000 {
		b := make([]byte, next(5))
		for i := range b {
			b[i] = "aZ_09 .<\n#\xff"[next(11)]
		}
		got := scan(string(b))
		want := len(got.words) == 2 && got.words[0].Kind == api.WordName && got.words[0].Text == string(b)
		if lex.IsName(string(b)) != want {
			t.Errorf("IsName(%q): %v, but Scan tells %v", b, !want, got)
		}
	}
}

func FuzzScan(f *testing.F) {
	for _, s := range []string{"", "x <= 1.5;", "a\n 01", "# \xff\n$", "1.", "=>=<="} {
		f.Add(s)
	}
	f.Fuzz(func(t *testing.T, s string) {
		if len(s) <= 1000 {
			check(t, s, model(s))
		}
	})
}
