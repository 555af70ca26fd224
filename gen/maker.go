package gen

import (
	"picket/api"
	"picket/core"
	"picket/kinds"
)

// maker puts instructions behind those that it has, with a sheet's signals by their numbers.
type maker struct {
	*kinds.Sheet
	sums
	codes []api.Code
	cell  int // the next one that is given out
}

func newMaker(sheet *kinds.Sheet, atoms ...api.Atom) *maker {
	m := &maker{Sheet: sheet, sums: sums{known: make(map[sum]int)}}
	for _, a := range atoms {
		m.add(a)
	}
	return m
}

// tell puts a property's instructions behind the others, and one that tells it.
func (m *maker) tell(i int, body []api.Node) api.Errno {
	n, e := core.Norm(body)
	if e != api.OK {
		return e
	}
	if e := m.formula(n); e != api.OK {
		return e
	}
	m.codes = append(m.codes, api.Code{Do: api.DoTell, A: i})
	return api.OK
}

// begun is a part of which so many parts are still to come.
type begun struct {
	api.Node
	lacks int
}

// formula puts a core formula's instructions behind the others. A list keeps the parts that have begun, each within the one ahead of it: formulas may be deep.
func (m *maker) formula(n []api.Node) api.Errno {
	var open []begun
	for _, part := range n {
		open = append(open, begun{part, part.N})
		for len(open) > 0 && open[len(open)-1].lacks == 0 {
			last := len(open) - 1
			if e := m.put(open[last].Node); e != api.OK {
				return e
			}
			open = open[:last]
			if last > 0 {
				open[last-1].lacks--
			}
		}
	}
	return api.OK
}

// put puts a part's own instruction behind those of the parts within it.
func (m *maker) put(n api.Node) api.Errno {
	c := api.Code{}
	switch n.Op {
	case api.OpTrue:
		c.Do = api.DoTrue
	case api.OpFalse:
		c.Do = api.DoFalse
	case api.OpAtom:
		a, e := m.atom(n)
		if e != api.OK {
			return e
		}
		c = api.Code{Do: api.DoAtom, A: m.number(a)}
	case api.OpNot:
		c.Do = api.DoNot
	case api.OpOr:
		c = api.Code{Do: api.DoOr, A: n.N}
	case api.OpPrev:
		c = api.Code{Do: api.DoPrev, A: m.cell}
	case api.OpSince:
		c = api.Code{Do: api.DoSince, A: m.cell, From: n.From, To: n.To}
	}
	m.codes = append(m.codes, c)
	m.cell += Room(c)
	return api.OK
}

// atom tells an atom with its signals' numbers.
func (m *maker) atom(n api.Node) (api.Atom, api.Errno) {
	a := api.Atom{Num: n.Num}
	for _, t := range n.Terms {
		i, e := m.Find(t.Name)
		if e != api.OK {
			return api.Atom{}, e
		}
		a.Terms = append(a.Terms, api.Weight{Signal: i, Times: t.Times})
	}
	return a, api.OK
}

// beyond tells whether there are more instructions or cells than may be.
func (m *maker) beyond(l api.Limits) bool {
	return above(len(m.codes), api.MaxSteps, l.Steps) || above(m.cell, api.MaxCells, l.Cells)
}

// above tells whether there are more than may be: at most so many, nor more than are said, if some are.
func above(n, most, said int) bool { return n > most || said != 0 && n > said }

// program tells what was made.
func (m *maker) program(l ...api.Prop) api.Program {
	p := api.Program{Atoms: m.atoms, Codes: m.codes}
	for _, x := range l {
		p.Props = append(p.Props, x.Name)
	}
	p.Layout = api.Layout{Cells: Cells(m.codes...), Stack: Stack(m.codes...), Signals: m.Len()}
	return p
}
