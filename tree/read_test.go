package tree_test

import (
	"reflect"
	"strconv"
	"strings"
	"testing"

	"picket/api"
	"picket/tree"
)

// short tells a text's beginning, if it is long.
func short(s string) string { return s[:min(len(s), 60)] }

// says holds Formula against a tree.
func says(t *testing.T, text string, want []api.Node) {
	t.Helper()
	n, e, line, col := tree.Formula(text)
	if e != api.OK || line != 0 || col != 0 || !equal(n, want) {
		t.Errorf("Formula(%q): %v, %d at %d, %d, not %v", short(text), n, e, line, col, want)
	}
	if e == api.OK && !tree.Valid(n) {
		t.Errorf("Formula(%q) is not valid: %v", short(text), n)
	}
}

// refuses holds Formula against an error and its place.
func refuses(t *testing.T, text string, e api.Errno, line, col int) {
	t.Helper()
	n, f, l, c := tree.Formula(text)
	if len(n) != 0 || f != e || l != line || c != col {
		t.Errorf("Formula(%q): %v, %d at %d, %d, not %d at %d, %d", short(text), n, f, l, c, e, line, col)
	}
}

// reads tells whether Formula takes a text.
func reads(text string) bool {
	_, e, _, _ := tree.Formula(text)
	return e == api.OK
}

// P602
func TestExamples(t *testing.T) {
	says(t, "a <= 1 or not once[0, 3] b >= 2", bare(api.OpOr, below("a", 1), not(timed(api.OpOnce, 0, 3, atom(-2*one, term("b", -one))))))
	says(t, "true since[1, inf] false since true", timed(api.OpSince, 0, forever, timed(api.OpSince, 1, forever, yes(), no()), yes()))
	refuses(t, "a <=", api.ErrText, 1, 5)
	refuses(t, "a + <= 1", api.ErrText, 1, 5)
}

// P602
func TestFormulaOfEachRule(t *testing.T) {
	a, b, c := below("a", 1), below("b", 2), below("c", 3)
	says(t, "true", yes())
	says(t, "false", no())
	says(t, "a <= 1", a)
	says(t, "not a <= 1", not(a))
	says(t, "prev a <= 1", bare(api.OpPrev, a))
	says(t, "once a <= 1", timed(api.OpOnce, 0, forever, a))
	says(t, "hist a <= 1", timed(api.OpHist, 0, forever, a))
	says(t, "a <= 1 and b <= 2", bare(api.OpAnd, a, b))
	says(t, "a <= 1 or b <= 2", bare(api.OpOr, a, b))
	says(t, "a <= 1 => b <= 2", bare(api.OpThen, a, b))
	says(t, "a <= 1 since b <= 2", timed(api.OpSince, 0, forever, a, b))
	says(t, "not prev once hist not c <= 3", not(bare(api.OpPrev, timed(api.OpOnce, 0, forever, timed(api.OpHist, 0, forever, not(c))))))
	says(t, "# a remark\n\ttrue# another\n", yes())
}

// P602: which binds closer, and which side.
func TestFormulaOfGroups(t *testing.T) {
	a, b, c, d := below("a", 1), below("b", 2), below("c", 3), below("d", 4)
	since := func(p, q []api.Node) []api.Node { return timed(api.OpSince, 0, forever, p, q) }
	then := func(p, q []api.Node) []api.Node { return bare(api.OpThen, p, q) }
	and := func(l ...[]api.Node) []api.Node { return bare(api.OpAnd, l...) }
	or := func(l ...[]api.Node) []api.Node { return bare(api.OpOr, l...) }
	for text, want := range map[string][]api.Node{
		"A => B => C":               then(a, then(b, c)),
		"A => B => C => D":          then(a, then(b, then(c, d))),
		"(A => B) => C":             then(then(a, b), c),
		"A => (B => C)":             then(a, then(b, c)),
		"A since B since C":         since(since(a, b), c),
		"A since B since C since D": since(since(since(a, b), c), d),
		"A since (B since C)":       since(a, since(b, c)),
		"A or B or C":               or(a, b, c),
		"A or B or C or D":          or(a, b, c, d),
		"(A or B) or C":             or(or(a, b), c),
		"A or (B or C)":             or(a, or(b, c)),
		"((A) or (B)) or ((C))":     or(or(a, b), c),
		"A and B and C and D":       and(a, b, c, d),
		"(A and B) and C":           and(and(a, b), c),
		"A and (B and C)":           and(a, and(b, c)),
		"A and B or C and D":        or(and(a, b), and(c, d)),
		"A or B and C or D":         or(a, and(b, c), d),
		"(A or B) and (C or D)":     and(or(a, b), or(c, d)),
		"(A and B) or C":            or(and(a, b), c),
		"A or B => C and D":         then(or(a, b), and(c, d)),
		"A => B or C => D":          then(a, then(or(b, c), d)),
		"A or (B => C)":             or(a, then(b, c)),
		"A and B since C":           and(a, since(b, c)),
		"A since B and C":           and(since(a, b), c),
		"A since (B and C)":         since(a, and(b, c)),
		"not A and B":               and(not(a), b),
		"not A since B":             since(not(a), b),
		"A since not B since C":     since(since(a, not(b)), c),
		"not (A since B)":           not(since(a, b)),
		"not (A and B)":             not(and(a, b)),
		"prev A or B":               or(bare(api.OpPrev, a), b),
		"once A => B":               then(timed(api.OpOnce, 0, forever, a), b),
		"hist (A => B)":             timed(api.OpHist, 0, forever, then(a, b)),
		"(((A)))":                   a,
		"(not ((A)))":               not(a),
	} {
		says(t, strings.NewReplacer("A", "a <= 1", "B", "b <= 2", "C", "c <= 3", "D", "d <= 4").Replace(text), want)
	}
}

// P602
func TestFormulaOfIntervals(t *testing.T) {
	for word, op := range map[string]int{"once": api.OpOnce, "hist": api.OpHist, "true since": api.OpSince} {
		l := [][]api.Node{no()}
		if op == api.OpSince {
			l = [][]api.Node{yes(), no()}
		}
		at := len(word) + 1
		says(t, word+" false", timed(op, 0, forever, l...))
		says(t, word+"[0, inf] false", timed(op, 0, forever, l...))
		says(t, word+" [ 0,inf ]false", timed(op, 0, forever, l...))
		says(t, word+"[0, 0] false", timed(op, 0, 0, l...))
		says(t, word+"[3, inf] false", timed(op, 3, forever, l...))
		says(t, word+"[5, 3] false", timed(op, 5, 3, l...))
		says(t, word+"[1001, 2000] false", timed(op, 1001, 2000, l...))
		says(t, word+"[2147483647, 2147483647] false", timed(op, maxInt, maxInt, l...))
		refuses(t, word+"[2147483648, 1] false", api.ErrOver, 1, at+1)
		refuses(t, word+"[1, 2147483648] false", api.ErrOver, 1, at+4)
		refuses(t, word+"[12345678901, 1] false", api.ErrNumber, 1, at+1)
		refuses(t, word+"[1.0, 2] false", api.ErrText, 1, at+1)
		refuses(t, word+"[1, 2.5] false", api.ErrText, 1, at+4)
		refuses(t, word+"[1, 2147483647.5] false", api.ErrText, 1, at+4)
		refuses(t, word+"[inf, 2] false", api.ErrText, 1, at+1)
		refuses(t, word+"[-1, 2] false", api.ErrText, 1, at+1)
		refuses(t, word+"[1, -2] false", api.ErrText, 1, at+4)
		refuses(t, word+"[1, - inf] false", api.ErrText, 1, at+4)
		refuses(t, word+"[] false", api.ErrText, 1, at+1)
		refuses(t, word+"[1] false", api.ErrText, 1, at+2)
		refuses(t, word+"[1 2] false", api.ErrText, 1, at+3)
		refuses(t, word+"[1, 2 false", api.ErrText, 1, at+6)
		refuses(t, word+"[1, a] false", api.ErrText, 1, at+4)
		refuses(t, word+"[1, 2, 3] false", api.ErrText, 1, at+5)
		refuses(t, word+"[1, 2][1, 2] false", api.ErrText, 1, at+6)
		refuses(t, word+"[1, 2]", api.ErrText, 1, at+6)
	}
	refuses(t, "not[1, 2] true", api.ErrText, 1, 4)
	refuses(t, "prev[1, 2] true", api.ErrText, 1, 5)
	refuses(t, "true and[1, 2] true", api.ErrText, 1, 9)
}

// P602
func TestFormulaOfAtoms(t *testing.T) {
	big := "2147483647.99999999976716935634613037109375"
	for text, want := range map[string][]api.Node{
		"a <= 0":                          below("a", 0),
		"a <= -0":                         below("a", 0),
		"a <= - 1.5":                      atom(-3*one/2, term("a", one)),
		"-a <= 1":                         atom(one, term("a", -one)),
		"2*a <= 1":                        atom(one, term("a", 2*one)),
		"-2 * a <= 1":                     atom(one, term("a", -2*one)),
		"1*a <= 1":                        below("a", 1),
		"0*a <= 1":                        atom(one, term("a", 0)),
		"-0*a <= 1":                       atom(one, term("a", 0)),
		"-a + 2*b - 0.5*c <= -1.25":       atom(-5*one/4, term("a", -one), term("b", 2*one), term("c", -one/2)),
		"a + a - a <= 1":                  atom(one, term("a", one), term("a", one), term("a", -one)),
		"a >= 2":                          atom(-2*one, term("a", -one)),
		"a >= -2":                         atom(2*one, term("a", -one)),
		"a >= 0":                          atom(0, term("a", -one)),
		"-a + 2*b - 0.5*c - d >= -1.25":   atom(5*one/4, term("a", one), term("b", -2*one), term("c", one/2), term("d", one)),
		"0*a >= 0":                        atom(0, term("a", 0)),
		big + "*a <= " + big:              atom(api.MaxFix, term("a", api.MaxFix)),
		big + "*a >= " + big:              atom(-api.MaxFix, term("a", -api.MaxFix)),
		"-" + big + "*a <= -" + big:       atom(-api.MaxFix, term("a", -api.MaxFix)),
		"-" + big + "*a >= -" + big:       atom(api.MaxFix, term("a", api.MaxFix)),
		"a - " + big + "*b <= 2147483647": atom(2147483647*one, term("a", one), term("b", -api.MaxFix)),
		"a <= 1000000000":                 below("a", 1000000000),
		"a <= 0.00000000023283064365386962890625": atom(1, term("a", one)),
		"a<=1.50":   atom(3*one/2, term("a", one)),
		"a\n<=\n1 ": below("a", 1),
	} {
		says(t, text, want)
	}
	for text, col := range map[string]int{"a": 2, "a 1": 3, "a < 1": 3, "a > 1": 3, "a = 1": 3, "a => 1": 3, "a <= b": 6, "a <= - - 1": 8, "a <= + 1": 6, "a <= 1 * b": 8, "a <= 1 + 1": 8, "a <= 1 <= 2": 8, "a <= (1)": 6, "2 a <= 1": 3, "2 <= a": 3, "2 * 3 <= 1": 5, "2 * - a <= 1": 5, "a * 2 <= 1": 3, "- - a <= 1": 3, "+ a <= 1": 1, "a + - b <= 1": 5, "a + + b <= 1": 5, "a - - b <= 1": 5, "a b <= 1": 3, "a + (b) <= 1": 5, "-(a) <= 1": 2, "- true <= 1": 3, "a <= inf": 6, "a <= true": 6} {
		refuses(t, text, api.ErrText, 1, col)
	}
	for text, e := range map[string]api.Errno{"a <= 2147483648": api.ErrOver, "a <= 9999999999": api.ErrOver, "a <= 12345678901": api.ErrNumber, "a <= -2147483648": api.ErrOver, "a <= 0.1": api.ErrOver, "a <= 01": api.ErrNumber} {
		refuses(t, text, e, 1, 6+strings.Count(text, "-"))
	}
}

// P602: each reserved word where a NAME is asked.
func TestReservedWords(t *testing.T) {
	for _, w := range reserved() {
		refuses(t, "a + "+w+" <= 1", api.ErrText, 1, 5)
		refuses(t, "2 * "+w+" <= 1", api.ErrText, 1, 5)
		refuses(t, "- "+w+" <= 1", api.ErrText, 1, 3)
		if reads(w + " <= 1") {
			t.Errorf("%s was taken as a name", w)
		}
		parseFails(t, "spec "+w+";", api.ErrText, 1, 6)
		parseFails(t, "spec s; signal "+w+": m [0, 1];", api.ErrText, 1, 16)
		parseFails(t, "spec s; signal a: "+w+" [0, 1];", api.ErrText, 1, 19)
		parseFails(t, "spec s; prop "+w+": true;", api.ErrText, 1, 14)
	}
	for _, w := range goodNames() {
		says(t, "2*"+w+" + "+w+" <= 1", atom(one, term(w, 2*one), term(w, one)))
		s := specOf(t, "spec "+w+"; signal "+w+": "+w+" [0, 1]; prop "+w+": true;")
		if s.Name != w || s.Signals[0].Name != w || s.Signals[0].Unit != w || s.Props[0].Name != w {
			t.Errorf("Parse of names %s: %v", w, s)
		}
	}
}

// P602: words that can't stand where they are.
func TestFormulaOfWrongWords(t *testing.T) {
	refuses(t, "", api.ErrText, 1, 1)
	refuses(t, "  # nothing\n ", api.ErrText, 2, 2)
	for text, col := range map[string]int{"true true": 6, "(true": 6, "true)": 5, "()": 2, "(": 2, ")": 1, "not": 4, "prev": 5, "once": 5, "hist": 5, "and": 1, "true and": 9, "true or": 8, "true =>": 8, "true since": 11, "or true": 1, "=> true": 1, "since true": 1, "true and or true": 10, "true and since true": 10, "true not true": 6, "true (true)": 6, "(true) false": 8, "(true, true)": 6, "true;": 5, "spec s;": 1, "prop p: true;": 1, "inf": 1, "1": 2, "{true}": 1, "true = > true": 6, "true : true": 6, "[0, 1] true": 1, "(a <= 1 or": 11, "((true)": 8, "((true)))": 9} {
		refuses(t, text, api.ErrText, 1, col)
	}
	refuses(t, "true\nor", api.ErrText, 2, 3)
	refuses(t, "true\n  or\n\t or true", api.ErrText, 3, 3)
	refuses(t, "a <= 1 )\n)", api.ErrText, 1, 8)
	refuses(t, "(a <=\n(b <= 1)", api.ErrText, 2, 1)
}

// P602: lex.Scan's errors stand ahead of those of the grammar, wherever they are, and these ahead of ErrLong.
func TestOrderOfErrors(t *testing.T) {
	refuses(t, ") $", api.ErrWord, 1, 3)
	refuses(t, "a <= <= 01", api.ErrNumber, 1, 9)
	refuses(t, ") 0.1", api.ErrOver, 1, 3)
	refuses(t, ")\n"+strings.Repeat("a", 25), api.ErrLong, 2, 1)
	refuses(t, strings.Repeat("not ", 30)+")", api.ErrText, 1, 121)
	refuses(t, strings.Repeat("true or ", 400)+"or", api.ErrText, 1, 3201)
	refuses(t, strings.Repeat("a + ", 30)+"a <= )", api.ErrText, 1, 126)
	refuses(t, strings.Repeat("not ", 30)+"$", api.ErrWord, 1, 121)
	parseFails(t, "spec ; 01", api.ErrNumber, 1, 8)
	parseFails(t, "spec s;"+strings.Repeat("prop p: true;", 20)+")", api.ErrText, 1, 8+13*20)
	parseFails(t, "spec s;"+strings.Repeat("signal a: m [0, 1];", 20)+"signal", api.ErrText, 1, 8+19*20+6)
	parseFails(t, "spec s;"+strings.Repeat("prop p: true;", 20)+"$", api.ErrWord, 1, 8+13*20)
	parseFails(t, "spec s; prop p: "+strings.Repeat("not ", 30)+"true; prop q true;", api.ErrText, 1, 150)
}

// P602: too much.
func TestFormulaOfTooMuch(t *testing.T) {
	ors := func(n int) string { return strings.Repeat("true or ", n-1) + "true" }
	says(t, ors(299), wide(api.OpOr, 299))
	refuses(t, ors(300), api.ErrLong, 0, 0)
	refuses(t, ors(8000), api.ErrLong, 0, 0)
	says(t, "("+ors(149)+") and ("+ors(148)+")", bare(api.OpAnd, wide(api.OpOr, 149), wide(api.OpOr, 148)))
	refuses(t, "("+ors(149)+") and ("+ors(149)+")", api.ErrLong, 0, 0)
	says(t, "not ("+ors(298)+")", not(wide(api.OpOr, 298)))
	refuses(t, "not ("+ors(299)+")", api.ErrLong, 0, 0)
	says(t, strings.Repeat("not ", 23)+"true", nested(23))
	refuses(t, strings.Repeat("not ", 24)+"true", api.ErrLong, 0, 0)
	refuses(t, strings.Repeat("not ", 16000)+"true", api.ErrLong, 0, 0)
	says(t, strings.Repeat("not(", 22)+"true or false"+strings.Repeat(")", 22), append(bareNots(22), bare(api.OpOr, yes(), no())...))
	refuses(t, strings.Repeat("not(", 23)+"true or false"+strings.Repeat(")", 23), api.ErrLong, 0, 0)
	for _, word := range []string{"=>", "since"} { // as many within one another as there are words
		text := func(n int) string { return strings.Repeat("true "+word+" ", n) + "true" }
		if !reads(text(23)) {
			t.Errorf("Formula of 23 %s", word)
		}
		refuses(t, text(24), api.ErrLong, 0, 0)
		refuses(t, text(5000), api.ErrLong, 0, 0)
	}
	terms := func(n int) string { return strings.Repeat("a + ", n-1) + "a <= 0" }
	says(t, terms(16), sum(16))
	refuses(t, terms(17), api.ErrLong, 0, 0)
	refuses(t, terms(16000), api.ErrLong, 0, 0)
	refuses(t, "true or "+terms(17), api.ErrLong, 0, 0)
	refuses(t, terms(17)+" and true", api.ErrLong, 0, 0)
}

// P602: brackets leave no part, however many there are.
func TestFormulaOfManyBrackets(t *testing.T) {
	says(t, strings.Repeat("(", 32766)+"true"+strings.Repeat(")", 32766), yes())
	refuses(t, strings.Repeat("(", 65536), api.ErrText, 1, 65537)
	refuses(t, strings.Repeat("(", 30000)+"true"+strings.Repeat(")", 29999), api.ErrText, 1, 60004)
	refuses(t, strings.Repeat("(", 30000)+"true"+strings.Repeat(")", 30001), api.ErrText, 1, 60005)
	refuses(t, strings.Repeat("not(", 16384), api.ErrText, 1, 65537)
}

// P602: MaxBytes.
func TestLongTexts(t *testing.T) {
	says(t, "true"+strings.Repeat(" ", 65532), yes())
	refuses(t, "true"+strings.Repeat(" ", 65533), api.ErrLong, 0, 0)
	refuses(t, strings.Repeat("$", 65537), api.ErrLong, 0, 0)
	specOf(t, "spec s;"+strings.Repeat("\n", 65529))
	parseFails(t, "spec s;"+strings.Repeat("\n", 65530), api.ErrLong, 0, 0)
}

// specOf tells Parse's answer.
func specOf(t *testing.T, text string) api.Spec {
	t.Helper()
	s, e, line, col := tree.Parse(text)
	if e != api.OK || line != 0 || col != 0 {
		t.Errorf("Parse(%q): %d at %d, %d", short(text), e, line, col)
	}
	return s
}

// parseFails holds Parse against an error and its place.
func parseFails(t *testing.T, text string, e api.Errno, line, col int) {
	t.Helper()
	s, f, l, c := tree.Parse(text)
	if !reflect.DeepEqual(s, api.Spec{}) || f != e || l != line || c != col {
		t.Errorf("Parse(%q): %v, %d at %d, %d, not %d at %d, %d", short(text), s, f, l, c, e, line, col)
	}
}

// sameSpec holds specifications against each other without the program.
func sameSpec(a, b api.Spec) bool {
	if a.Name != b.Name || a.Limits != b.Limits || len(a.Signals) != len(b.Signals) || len(a.Props) != len(b.Props) {
		return false
	}
	for i := range a.Signals {
		if a.Signals[i] != b.Signals[i] {
			return false
		}
	}
	for i := range a.Props {
		if a.Props[i].Name != b.Props[i].Name || !equal(a.Props[i].Body, b.Props[i].Body) {
			return false
		}
	}
	return true
}

func signal(name, unit string, lo, hi api.Fix) api.Signal {
	return api.Signal{Name: name, Unit: unit, Span: api.Span{Lo: lo, Hi: hi}}
}

// P602
func TestParse(t *testing.T) {
	for text, want := range map[string]api.Spec{
		"spec s;":                   {Name: "s"},
		"spec s; cells 5;":          {Name: "s", Limits: api.Limits{Cells: 5}},
		"spec s; steps 7;":          {Name: "s", Limits: api.Limits{Steps: 7}},
		"spec s;cells 5;steps 7;":   {Name: "s", Limits: api.Limits{Cells: 5, Steps: 7}},
		"spec s; cells 0; steps 0;": {Name: "s"},
		"spec s; cells 2147483647; steps 2147483647;":   {Name: "s", Limits: api.Limits{Cells: maxInt, Steps: maxInt}},
		"spec s; signal a: m [0, 10];":                  {Name: "s", Signals: []api.Signal{signal("a", "m", 0, 10*one)}},
		"spec s; signal a:m[-1.5,-0.5];":                {Name: "s", Signals: []api.Signal{signal("a", "m", -3*one/2, -one/2)}},
		"spec s; signal a: m [- 1, - 0];":               {Name: "s", Signals: []api.Signal{signal("a", "m", -one, 0)}},
		"spec s; signal a: m [3, 2];":                   {Name: "s", Signals: []api.Signal{signal("a", "m", 3*one, 2*one)}},
		"spec s; signal a: a [0, 0]; signal a: b[1,1];": {Name: "s", Signals: []api.Signal{signal("a", "a", 0, 0), signal("a", "b", one, one)}},
		"spec s; prop p: true;":                         {Name: "s", Props: []api.Prop{{Name: "p", Body: yes()}}},
		"spec s; prop p: a <= 1; prop p: not false;":    {Name: "s", Props: []api.Prop{{Name: "p", Body: below("a", 1)}, {Name: "p", Body: not(no())}}},
		"# first\nspec s;\n\ncells 1; steps 2;\nsignal a: m [0, 1];\nprop p: a <= 1 => true;\n": {Name: "s", Limits: api.Limits{Cells: 1, Steps: 2}, Signals: []api.Signal{signal("a", "m", 0, one)}, Props: []api.Prop{{Name: "p", Body: bare(api.OpThen, below("a", 1), yes())}}},
	} {
		if got := specOf(t, text); !sameSpec(got, want) {
			t.Errorf("Parse(%q): %v, not %v", text, got, want)
		}
	}
	max := "2147483647.99999999976716935634613037109375"
	if got := specOf(t, "spec s; signal a: m [-"+max+", "+max+"];"); got.Signals[0] != signal("a", "m", -api.MaxFix, api.MaxFix) {
		t.Errorf("Parse of the greatest numbers: %v", got)
	}
}

// P602: words that can't stand where they are.
func TestParseOfWrongWords(t *testing.T) {
	for text, col := range map[string]int{
		"": 1, "true": 1, "s;": 1, "spec": 5, "spec s": 7, "spec 1;": 6, "spec ;": 6, "spec s t;": 8, "spec s; spec t;": 9, "spec s;;": 8, "spec s; true": 9, "spec s; a": 9, "spec s; inf": 9,
		"spec s; cells": 14, "spec s; cells;": 14, "spec s; cells 1": 16, "spec s; cells -1;": 15, "spec s; cells 1.0;": 15, "spec s; cells 2147483647.5;": 15, "spec s; cells inf;": 15, "spec s; cells a;": 15, "spec s; cells 1 2;": 17, "spec s; cells 1; cells 1;": 18,
		"spec s; steps": 14, "spec s; steps 1.5;": 15, "spec s; steps 1; cells 1;": 18, "spec s; steps 1; steps 1;": 18,
		"spec s; signal": 15, "spec s; signal 1": 16, "spec s; signal a": 17, "spec s; signal a m": 18, "spec s; signal a:": 18, "spec s; signal a: 1": 19, "spec s; signal a: m": 20, "spec s; signal a: m;": 20, "spec s; signal a: m (0, 1);": 21, "spec s; signal a: m []": 22, "spec s; signal a: m [a, 1];": 22, "spec s; signal a: m [0 1];": 24, "spec s; signal a: m [0, 1;": 26, "spec s; signal a: m [0, inf];": 25, "spec s; signal a: m [- - 1, 0];": 24, "spec s; signal a: m [0, 1]": 27, "spec s; signal a: m [0, 1] signal": 28, "spec s; signal a: m [0, 1]; cells 1;": 29, "spec s; signal a: m [0, 1]; steps 1;": 29,
		"spec s; prop": 13, "spec s; prop 1": 14, "spec s; prop p": 15, "spec s; prop p true;": 16, "spec s; prop p:": 16, "spec s; prop p:;": 16, "spec s; prop p: true": 21, "spec s; prop p: true prop": 22, "spec s; prop p: true; signal a: m [0, 1];": 23, "spec s; prop p: true; cells 1;": 23, "spec s; prop p: true; true": 23, "spec s; prop p: true or; prop q: true;": 24, "spec s; prop p: (true; prop q: true;": 22, "spec s; prop p: a <= ;": 22,
	} {
		parseFails(t, text, api.ErrText, 1, col)
	}
	parseFails(t, "spec s;\nsignal a: m [0, 1];\nprop p:\n  not not;\n", api.ErrText, 4, 10)
	parseFails(t, "spec s; cells 2147483648;", api.ErrOver, 1, 15)
	parseFails(t, "spec s; steps 12345678901;", api.ErrNumber, 1, 15)
	parseFails(t, "spec s; signal a: m [-2147483648, 0];", api.ErrOver, 1, 23)
	parseFails(t, "spec s; signal a: m [0, 2147483648];", api.ErrOver, 1, 25)
}

// P602
func TestParseOfTooMuch(t *testing.T) {
	many := func(n int, s string) string {
		text := "spec s;"
		for i := range n {
			text += strings.ReplaceAll(s, "@", "x"+strconv.Itoa(i))
		}
		return text
	}
	if s := specOf(t, many(16, "signal @: m [0, 1];")); len(s.Signals) != 16 || s.Signals[15].Name != "x15" {
		t.Errorf("Parse of 16 signals: %v", s)
	}
	if s := specOf(t, many(16, "prop @: true;")); len(s.Props) != 16 || s.Props[15].Name != "x15" {
		t.Errorf("Parse of 16 properties: %v", s)
	}
	for _, n := range []int{17, 18, 3000} {
		parseFails(t, many(n, "signal @: m [0,1];"), api.ErrLong, 0, 0)
		parseFails(t, many(n, "prop @: true;"), api.ErrLong, 0, 0)
	}
	for text, within := range map[string]bool{
		strings.Repeat("not ", 23) + "true":        true,
		strings.Repeat("not ", 24) + "true":        false,
		strings.Repeat("true or ", 298) + "true":   true,
		strings.Repeat("true or ", 299) + "true":   false,
		strings.Repeat("a + ", 15) + "a <= 1":      true,
		strings.Repeat("a + ", 16) + "a <= 1":      false,
		strings.Repeat("true => ", 4000) + "false": false,
	} {
		for _, s := range []string{"spec s; prop p: " + text + "; prop q: true;", "spec s; prop p: true; prop q: " + text + ";"} {
			if within {
				specOf(t, s)
				continue
			}
			parseFails(t, s, api.ErrLong, 0, 0)
		}
	}
	full := specOf(t, many(16, "prop @: "+strings.Repeat("true or ", 298)+"true;")) // the limit is each formula's own
	for _, p := range full.Props {
		if !equal(p.Body, wide(api.OpOr, 299)) {
			t.Errorf("Parse of 16 properties of 300 parts: %s", p.Name)
		}
	}
}

// Each answer is new memory, its lists too.
func TestReadersAnswerNewLists(t *testing.T) {
	text := "spec s; signal a: m [0, 1]; signal b: m [0, 1]; prop p: a + b <= 1 and a <= 2; prop q: a <= 1;"
	a, b := specOf(t, text), specOf(t, text)
	want := bare(api.OpAnd, atom(one, term("a", one), term("b", one)), below("a", 2))
	spoil(a.Props[1].Body)
	if !equal(a.Props[0].Body, want) {
		t.Errorf("two bodies of one answer share memory: %v", a)
	}
	spoil(a.Props[0].Body)
	a.Signals[0].Name, a.Props[0].Name = "x", "x"
	if !equal(b.Props[0].Body, want) || b.Signals[0].Name != "a" || b.Props[0].Name != "p" {
		t.Errorf("another answer changed: %v", b)
	}
	n, _, _, _ := tree.Formula("a <= 1 or a <= 1")
	n[1].Terms[0].Name = "x"
	if n[2].Terms[0].Name != "a" {
		t.Errorf("two atoms share their terms")
	}
}
