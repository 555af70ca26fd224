package trace

import (
	"picket/api"
)

// look tells what parts of a formula mean at each tick of some.
type look struct {
	columns
	ticks
	over int // the first place at which an atom overflowed; behind all, if none did
}

// columns tell which number of a row is a signal's.
type columns map[string]int

func newColumns(names ...string) columns {
	c := make(columns, len(names))
	for i, name := range names {
		if _, is := c[name]; !is {
			c[name] = i
		}
	}
	return c
}

// weigh tells an atom by its signals' numbers. Those that no name is are left out: they count as 0.
func (c columns) weigh(n api.Node) api.Atom {
	a := api.Atom{Num: n.Num}
	for _, t := range n.Terms {
		if i, is := c[t.Name]; is {
			a.Terms = append(a.Terms, api.Weight{Signal: i, Times: t.Times})
		}
	}
	return a
}

// ticks are rows, one a tick.
type ticks [][]api.Fix

// constant tells the same of each tick.
func (t ticks) constant(holds bool) []bool {
	l := make([]bool, len(t))
	for i := range l {
		l[i] = holds
	}
	return l
}

// part tells where the first part of a list holds, and what stands behind that part.
func (l *look) part(n []api.Node) ([]bool, []api.Node) {
	top, rest := n[0], n[1:]
	if top.N == 0 {
		return l.leaf(top), rest
	}
	p, rest := l.part(rest)
	if top.N == 1 {
		return l.one(top, p), rest
	}
	for range top.N - 1 {
		var q []bool
		q, rest = l.part(rest)
		p = two(top, p, q)
	}
	return p, rest
}

// leaf tells where a part holds that has no others within it.
func (l *look) leaf(n api.Node) []bool {
	if n.Op == api.OpAtom {
		return l.atom(n)
	}
	return l.constant(n.Op == api.OpTrue)
}

// atom remembers, too, where it overflows: that is asked of every atom, wherever it stands.
func (l *look) atom(n api.Node) []bool {
	a := l.weigh(n)
	holds := make([]bool, len(l.ticks))
	for i, row := range l.ticks {
		h, over := Judge(a, row...)
		if over {
			l.over = min(l.over, i)
		}
		holds[i] = h
	}
	return holds
}

// one tells where a part holds that has one within it, which holds where p says.
func (l *look) one(n api.Node, p []bool) []bool {
	switch n.Op {
	case api.OpPrev:
		return before(p)
	case api.OpOnce:
		return since(n.From, n.To, l.constant(true), p)
	case api.OpHist: // it did not once fail to
		return not(since(n.From, n.To, l.constant(true), not(p)))
	}
	return not(p)
}

// two tells where a part of two holds, which hold where p and q say.
func two(n api.Node, p, q []bool) []bool {
	switch n.Op {
	case api.OpAnd:
		return not(or(not(p), not(q)))
	case api.OpThen:
		return or(not(p), q)
	case api.OpSince:
		return since(n.From, n.To, p, q)
	}
	return or(p, q)
}
