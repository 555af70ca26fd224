package tree_test

import (
	"strings"
	"testing"

	"picket/api"
	"picket/tree"
)

// strewn tells numbers that look like chance, and are the same each time.
func strewn(seed uint64) func(int) int {
	return func(n int) int {
		seed = seed*6364136223846793005 + 1442695040888963407
		return int(seed>>33) % n
	}
}

func someFix(next func(int) int) api.Fix {
	switch next(4) {
	case 0:
		return (next(7) - 3) * one
	case 1:
		return (next(41) - 20) * one / 8
	case 2:
		return []api.Fix{0, 1, -1, api.MaxFix, -api.MaxFix, one, -one, one + 1}[next(8)]
	}
	return (next(1<<31) - 1<<30) << next(33)
}

func someAtom(next func(int) int) []api.Node {
	n := atom(someFix(next))
	for range 1 + next(3) {
		n[0].Terms = append(n[0].Terms, term([]string{"a", "b", "x_1", "infinite"}[next(4)], someFix(next)))
	}
	return n
}

// someTree tells a tree in which parts stand within at most so many others.
func someTree(next func(int) int, deep int) []api.Node {
	if deep == 0 || next(5) == 0 {
		return [][]api.Node{yes(), no(), someAtom(next)}[next(3)]
	}
	ends := []int{0, 1, 5, maxInt}
	from, to := ends[next(4)], append(ends, forever)[next(5)]
	if next(3) == 0 {
		from, to = 0, forever
	}
	kid := func() []api.Node { return someTree(next, deep-1) }
	several := func(op int) []api.Node {
		l := [][]api.Node{kid(), kid()}
		for range next(3) {
			l = append(l, kid())
		}
		return bare(op, l...)
	}
	switch next(8) {
	case 0:
		return not(kid())
	case 1:
		return bare(api.OpPrev, kid())
	case 2:
		return timed(api.OpOnce, from, to, kid())
	case 3:
		return timed(api.OpHist, from, to, kid())
	case 4:
		return several(api.OpAnd)
	case 5:
		return several(api.OpOr)
	case 6:
		return bare(api.OpThen, kid(), kid())
	}
	return timed(api.OpSince, from, to, kid(), kid())
}

// trees are as many as are asked for, each valid.
func trees(seed uint64, n int) [][]api.Node {
	next := strewn(seed)
	var l [][]api.Node
	for len(l) < n {
		if x := someTree(next, next(6)); len(x) <= 300 {
			l = append(l, x)
		}
	}
	return l
}

// P605: Formula of Show.
func TestFormulaOfShow(t *testing.T) {
	for _, n := range trees(2, 20000) {
		text, e := tree.Show(n)
		if e != api.OK || !tree.Valid(n) {
			t.Errorf("Show(%v): %d", n, e)
		}
		if len(text) <= 65536 {
			says(t, text, n)
		}
	}
}

// P603: brackets just where the tree asks for them: without a pair of them the text says something else, or nothing.
func TestBracketsAreAskedFor(t *testing.T) {
	seen := 0
	for _, n := range trees(3, 8000) {
		text, _ := tree.Show(n)
		for at := range text {
			if text[at] != '(' {
				continue
			}
			seen++
			end := partner(text, at)
			without := text[:at] + " " + text[at+1:end] + " " + text[end+1:]
			if m, e, _, _ := tree.Formula(without); e == api.OK && equal(m, n) {
				t.Errorf("Show: %q, though %q says the same", text, without)
			}
		}
	}
	if seen < 5000 {
		t.Errorf("only %d brackets were looked at", seen)
	}
}

// partner tells where the bracket ends that begins there.
func partner(text string, at int) int {
	open := 0
	for i := at; i < len(text); i++ {
		switch text[i] {
		case '(':
			open++
		case ')':
			open--
		}
		if open == 0 {
			return i
		}
	}
	return len(text) - 1
}

// P602, P603: a text with a bracket around each part, with other blanks and remarks, and with intervals that need not be said, says the same.
func TestFormulaOfBracketsAllOver(t *testing.T) {
	next := strewn(4)
	for _, n := range trees(5, 5000) {
		var b strings.Builder
		spell(&b, next, n)
		if b.Len() <= 65536 {
			says(t, b.String(), n)
		}
	}
}

// spell writes a tree in brackets, its parts too, by a way of its own.
func spell(b *strings.Builder, next func(int) int, n []api.Node) []api.Node {
	gap := func() { b.WriteString([]string{" ", "\n", "\t ", " # x\n", "  "}[next(5)]) }
	top, rest := n[0], n[1:]
	b.WriteString("(")
	defer func() { b.WriteString(")") }()
	word := []string{"true", "false", "", "not", "and", "or", "=>", "prev", "once", "hist", "since"}[top.Op]
	if top.Op == api.OpOnce || top.Op == api.OpHist || top.Op == api.OpSince {
		word += spelledInterval(next, top)
	}
	switch {
	case top.Op == api.OpAtom:
		b.WriteString(spelledAtom(next, top))
		return rest
	case top.N < 2:
		b.WriteString(word)
		gap()
	}
	for i := range top.N {
		if i > 0 {
			gap()
			b.WriteString(word)
			gap()
		}
		rest = spell(b, next, rest)
	}
	return rest
}

func spelledInterval(next func(int) int, n api.Node) string {
	if n.From == 0 && n.To == forever && next(2) == 0 {
		return ""
	}
	to := digits(n.To)
	if n.To == forever {
		to = "inf"
	}
	return " [ " + digits(n.From) + "," + to + "]"
}

// spelledAtom tells an atom with <=, or with >= and all signs turned.
func spelledAtom(next func(int) int, n api.Node) string {
	turn, sign := 1, "<="
	if next(2) == 0 {
		turn, sign = -1, ">="
	}
	text := ""
	for i, x := range n.Terms {
		times := turn * x.Times
		switch {
		case times < 0:
			text += "-"
		case i > 0:
			text += "+"
		}
		if times != one && times != -one || next(3) == 0 {
			text += strings.TrimPrefix(decimal(times), "-") + "*"
		}
		text += x.Name
	}
	return text + sign + decimal(turn*n.Num)
}

// P605: Parse of Print.
func TestParseOfPrint(t *testing.T) {
	next := strewn(6)
	for range 3000 {
		s := api.Spec{Name: "s", Limits: api.Limits{Cells: []int{0, 1, maxInt}[next(3)], Steps: []int{0, 7, maxInt}[next(3)]}}
		for range next(5) {
			s.Signals = append(s.Signals, signal(goodNames()[next(11)], goodNames()[next(11)], someFix(next), someFix(next)))
		}
		for range next(5) {
			s.Props = append(s.Props, api.Prop{Name: goodNames()[next(11)], Body: someTree(next, 3)})
		}
		text, e := tree.Print(s)
		if e != api.OK {
			t.Errorf("Print(%v): %d", s, e)
		}
		if got := specOf(t, text); !sameSpec(got, s) {
			t.Errorf("Parse of Print: %v, not %v", got, s)
		}
	}
}

func FuzzFormula(f *testing.F) {
	for _, s := range []string{"", "a <= 1 or not once[0, 3] b >= 2", "true since[1, inf] false => (true and false)", "- 2*a + b <= -1.5"} {
		f.Add(s)
	}
	f.Fuzz(func(t *testing.T, s string) {
		n, e, _, _ := tree.Formula(s)
		if (e == api.OK) != tree.Valid(n) {
			t.Errorf("Formula(%q): %v, %d", s, n, e)
		}
		if e != api.OK {
			return
		}
		if text, _ := tree.Show(n); len(text) <= 65536 {
			says(t, text, n)
		}
	})
}

func FuzzParse(f *testing.F) {
	for _, s := range []string{"", "spec s; cells 1; steps 2; signal a: m [-1.5, 2]; prop p: a <= 1;"} {
		f.Add(s)
	}
	f.Fuzz(func(t *testing.T, s string) {
		x, e, _, _ := tree.Parse(s)
		if e != api.OK {
			return
		}
		text, e := tree.Print(x)
		if e == api.ErrLong {
			return
		}
		if got := specOf(t, text); e != api.OK || !sameSpec(got, x) {
			t.Errorf("Parse(%q): %v, printed as %q, %d", s, x, text, e)
		}
	})
}
