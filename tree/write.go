package tree

import (
	"strings"

	"picket/api"
	"picket/fix"
)

// Print tells a specification's text.
func Print(s api.Spec) (string, api.Errno) {
	if !isSpec(s) {
		return "", api.ErrText
	}
	var w writer
	w.spec(s)
	if w.Len() > api.MaxBytes {
		return "", api.ErrLong
	}
	return w.String(), api.OK
}

// Show tells a formula's text.
func Show(n []api.Node) (string, api.Errno) {
	if !Valid(n) {
		return "", api.ErrText
	}
	var w writer
	w.formula(n, anyRank)
	return w.String(), api.OK
}

// isSpec tells whether it is a specification that a text says.
func isSpec(s api.Spec) bool {
	if !isName(s.Name) || !isInt(s.Cells) || !isInt(s.Steps) || len(s.Signals) > api.MaxSignals || len(s.Props) > api.MaxProps {
		return false
	}
	for _, x := range s.Signals {
		if !isName(x.Name) || !isName(x.Unit) || !isNum(x.Lo) || !isNum(x.Hi) {
			return false
		}
	}
	for _, p := range s.Props {
		if !isName(p.Name) || !Valid(p.Body) {
			return false
		}
	}
	return true
}

// writer writes what a text can say.
type writer struct{ strings.Builder }

// put writes texts one behind the other.
func (w *writer) put(l ...string) {
	for _, s := range l {
		w.WriteString(s)
	}
}

func (w *writer) spec(s api.Spec) {
	w.put("spec ", s.Name, ";\n")
	w.limit("cells", s.Cells)
	w.limit("steps", s.Steps)
	for _, x := range s.Signals {
		w.put("signal ", x.Name, ": ", x.Unit, " [", fix.Text(x.Lo), ", ", fix.Text(x.Hi), "];\n")
	}
	for _, p := range s.Props {
		w.put("prop ", p.Name, ": ")
		w.formula(p.Body, anyRank)
		w.put(";\n")
	}
}

func (w *writer) limit(word string, v int) {
	if v != 0 {
		w.put(word, " ", fix.Digits(v), ";\n")
	}
}

// The ranks of parts: one stands in brackets where the grammar asks for a higher rank.
const (
	anyRank = iota
	orRank
	andRank
	sinceRank
	notRank
)

func rankOf(op int) int {
	switch op {
	case api.OpThen:
		return anyRank
	case api.OpOr:
		return orRank
	case api.OpAnd:
		return andRank
	case api.OpSince:
		return sinceRank
	}
	return notRank
}

// formula writes a tree where one of a rank or of a higher one is asked for.
func (w *writer) formula(n []api.Node, rank int) {
	if rankOf(n[0].Op) >= rank {
		w.part(n[0], Split(n)...)
		return
	}
	w.put("(")
	w.part(n[0], Split(n)...)
	w.put(")")
}

// part writes a part that is put together of others.
func (w *writer) part(top api.Node, l ...[]api.Node) {
	switch top.Op {
	case api.OpTrue:
		w.put("true")
	case api.OpFalse:
		w.put("false")
	case api.OpAtom:
		w.atom(top)
	case api.OpNot:
		w.ahead("not", l[0])
	case api.OpPrev:
		w.ahead("prev", l[0])
	case api.OpOnce:
		w.ahead("once"+interval(top), l[0])
	case api.OpHist:
		w.ahead("hist"+interval(top), l[0])
	case api.OpAnd:
		w.several("and", sinceRank, l...)
	case api.OpOr:
		w.several("or", andRank, l...)
	case api.OpThen:
		w.formula(l[0], orRank)
		w.put(" => ")
		w.formula(l[1], anyRank)
	case api.OpSince:
		w.formula(l[0], sinceRank)
		w.put(" ")
		w.ahead("since"+interval(top), l[1])
	}
}

// ahead writes a word and the part that stands behind it.
func (w *writer) ahead(word string, n []api.Node) {
	w.put(word, " ")
	w.formula(n, notRank)
}

// several writes parts with a word between.
func (w *writer) several(word string, rank int, l ...[]api.Node) {
	for i, n := range l {
		if i > 0 {
			w.put(" ", word, " ")
		}
		w.formula(n, rank)
	}
}

// interval tells the text of a part's interval, where it must be said.
func interval(n api.Node) string {
	if n.To != api.Forever {
		return "[" + fix.Digits(n.From) + ", " + fix.Digits(n.To) + "]"
	}
	if n.From != 0 {
		return "[" + fix.Digits(n.From) + ", inf]"
	}
	return ""
}

func (w *writer) atom(n api.Node) {
	for i, t := range n.Terms {
		w.term(t, i == 0)
	}
	w.put(" <= ", fix.Text(n.Num))
}

func (w *writer) term(t api.Term, first bool) {
	if !first {
		w.put(" ")
	}
	switch {
	case t.Times < 0:
		w.put("- ")
	case !first:
		w.put("+ ")
	}
	if t.Times != api.One && t.Times != -api.One {
		w.put(fix.Text(max(t.Times, -t.Times)), " * ")
	}
	w.put(t.Name)
}
