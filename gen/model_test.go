package gen_test

import (
	"fmt"
	"slices"
	"testing"

	"picket/api"
	"picket/kinds"
	"picket/tree"
)

const (
	one = api.One
	top = api.MaxFix
	low = api.MinFix
)

func formula(t *testing.T, text string) []api.Node {
	t.Helper()
	n, e, _, _ := tree.Formula(text)
	if e != api.OK {
		t.Fatalf("Formula(%s): %d", text, e)
	}
	return n
}

// strewn tells numbers that look like chance, and are the same each time.
func strewn(seed uint64) func(int) int {
	return func(n int) int {
		seed = seed*6364136223846793005 + 1442695040888963407
		return int(seed>>33) % n
	}
}

// thing is a formula with its parts within it.
type thing struct {
	node  api.Node
	parts []thing
}

// read tells the first part of a whole list, and what is behind it.
func read(n []api.Node) (thing, []api.Node) {
	x, rest := thing{node: n[0]}, n[1:]
	for range n[0].N {
		var part thing
		part, rest = read(rest)
		x.parts = append(x.parts, part)
	}
	return x, rest
}

// list tells a thing as a list.
func (x thing) list() []api.Node {
	x.node.N = len(x.parts)
	n := []api.Node{x.node}
	for _, part := range x.parts {
		n = append(n, part.list()...)
	}
	return n
}

// someThing tells a core formula in which parts stand within at most so many others.
func someThing(next func(int) int, deep int) thing {
	if deep == 0 || next(7) == 0 {
		if next(4) == 0 {
			return thing{node: api.Node{Op: next(2)}}
		}
		n := api.Node{Op: api.OpAtom, Num: next(2) * one}
		for n.Terms == nil || next(3) == 0 && len(n.Terms) < 4 {
			n.Terms = append(n.Terms, api.Term{Name: []string{"a", "b", "c"}[next(3)], Times: (1 + next(2)) * one})
		}
		return thing{node: n}
	}
	x := thing{node: api.Node{Op: []int{api.OpNot, api.OpOr, api.OpPrev, api.OpSince}[next(4)]}}
	count := 1
	switch x.node.Op {
	case api.OpOr:
		count = 2 + next(3)
	case api.OpSince:
		count = 2
		x.node.From = next(4)
		x.node.To = []int{forever, x.node.From, x.node.From + 1, x.node.From + 3}[next(4)]
	}
	for range count {
		x.parts = append(x.parts, someThing(next, deep-1))
	}
	return x
}

// model makes a formula's instructions as the chapter says it, part by part.
type model struct {
	names []string
	codes []api.Code
	atoms []api.Atom
	cell  int
}

func (m *model) put(x thing) {
	for _, part := range x.parts {
		m.put(part)
	}
	n := x.node
	switch n.Op {
	case api.OpTrue:
		m.codes = append(m.codes, api.Code{Do: 0})
	case api.OpFalse:
		m.codes = append(m.codes, api.Code{Do: 1})
	case api.OpAtom:
		m.codes = append(m.codes, api.Code{Do: 2, A: m.atom(n)})
	case api.OpNot:
		m.codes = append(m.codes, api.Code{Do: 3})
	case api.OpOr:
		m.codes = append(m.codes, api.Code{Do: 5, A: len(x.parts)})
	case api.OpPrev:
		m.codes = append(m.codes, api.Code{Do: 6, A: m.cell})
		m.cell++
	case api.OpSince:
		m.codes = append(m.codes, api.Code{Do: 7, A: m.cell, From: n.From, To: n.To})
		switch {
		case n.From == 0 && n.To == forever:
			m.cell++
		case n.To == forever:
			m.cell += n.From + 1
		default:
			m.cell += n.To + 1
		}
	}
}

func (m *model) atom(n api.Node) int {
	a := api.Atom{Num: n.Num}
	for _, x := range n.Terms {
		a.Terms = append(a.Terms, api.Weight{Signal: slices.Index(m.names, x.Name), Times: x.Times})
	}
	for i, b := range m.atoms {
		if fmt.Sprint(a) == fmt.Sprint(b) {
			return i
		}
	}
	m.atoms = append(m.atoms, a)
	return len(m.atoms) - 1
}

func sameAtoms(a, b []api.Atom) bool {
	return slices.EqualFunc(a, b, func(x, y api.Atom) bool { return x.Num == y.Num && slices.Equal(x.Terms, y.Terms) })
}

func signal(name string) api.Signal {
	return api.Signal{Name: name, Unit: "m", Span: api.Span{Lo: 0, Hi: 10 * one}}
}

// sheetOf tells a sheet with a, b and c of one unit, with those limits and properties.
func sheetOf(t *testing.T, l api.Limits, props ...api.Prop) *kinds.Sheet {
	t.Helper()
	s, e, whose := kinds.New(api.Spec{Name: "s", Limits: l, Signals: []api.Signal{signal("a"), signal("b"), signal("c")}, Props: props})
	if e != api.OK {
		t.Fatalf("New: %d, %q", e, whose)
	}
	return s
}

func prop(t *testing.T, name, text string) api.Prop {
	t.Helper()
	return api.Prop{Name: name, Body: formula(t, text)}
}

// short tells the beginning of a list.
func short[T any](l []T) string { return fmt.Sprintf("%d, %v ..", len(l), l[:min(len(l), 9)]) }
