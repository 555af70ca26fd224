package kinds

import (
	"picket/api"
	"picket/span"
	"picket/tree"
)

// Range tells what an atom's sum may be.
func (s *Sheet) Range(n []api.Node) (api.Span, api.Errno) {
	if e := s.Check(n); e != api.OK {
		return api.Span{}, e
	}
	if n[0].Op != api.OpAtom {
		return api.Span{}, api.ErrArg
	}
	return s.sum(n[0].Terms...)
}

// Check looks a formula over.
func (s *Sheet) Check(n []api.Node) api.Errno {
	if s == nil || s.Names == nil {
		return api.ErrArg
	}
	if !tree.Valid(n) {
		return api.ErrText
	}
	for _, part := range n {
		if e := s.part(part); e != api.OK {
			return e
		}
	}
	return api.OK
}

// part looks over what a part says, but for the parts within it.
func (s *Names) part(n api.Node) api.Errno {
	switch n.Op {
	case api.OpAtom:
		return s.atom(n.Terms...)
	case api.OpOnce, api.OpHist, api.OpSince:
		return interval(n.From, n.To)
	}
	return api.OK
}

// atom looks over a sum that has a term at least.
func (s *Names) atom(l ...api.Term) api.Errno {
	for _, t := range l {
		if !s.has(t.Name) {
			return api.ErrName
		}
	}
	unit := s.named(l[0].Name).Unit
	for _, t := range l {
		if s.named(t.Name).Unit != unit {
			return api.ErrUnit
		}
	}
	return api.OK
}

func interval(from, to int) api.Errno {
	if to != api.Forever && from > to || from > api.MaxBound || to > api.MaxBound {
		return api.ErrRange
	}
	return api.OK
}

// sum tells what a sum may be, of signals that are known, each within its span.
func (s *Names) sum(l ...api.Term) (api.Span, api.Errno) {
	var a span.Acc
	var spans []api.Span
	for _, t := range l {
		spans = append(spans, a.Times(s.named(t.Name).Span, t.Times))
	}
	// All at once: what leaves the ends on the way may come back.
	all := a.Plus(spans...)
	if a.Over {
		return api.Span{}, api.ErrOver
	}
	return all, api.OK
}
