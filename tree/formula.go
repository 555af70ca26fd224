package tree

import "picket/api"

// body reads a formula that stands within no other one.
func (r *reader) body() []api.Node {
	n := r.formula()
	if !Valid(n) { // what the grammar's rules have put together can only be too much
		r.long = true
	}
	return n
}

// join puts a part together, unless it is too much: then none is any more, so that what a text has of many parts within one another, or of many terms, is not copied over and over.
func (r *reader) join(top api.Node, l ...[]api.Node) []api.Node {
	size := 1
	for _, part := range l {
		size += len(part)
	}
	if size > api.MaxNodes || len(top.Terms) > api.MaxSignals {
		r.long = true
	}
	if r.long {
		return nil
	}
	return Make(top, l...)
}

func (r *reader) formula() []api.Node {
	n := r.or()
	if r.take("=>") {
		return r.join(api.Node{Op: api.OpThen}, n, r.formula())
	}
	return n
}

func (r *reader) or() []api.Node { return r.several(api.OpOr, "or", r.and) }

func (r *reader) and() []api.Node { return r.several(api.OpAnd, "and", r.since) }

// several reads parts with a word between, which make one part, unless there is only one.
func (r *reader) several(op int, word string, part func() []api.Node) []api.Node {
	first := part()
	if r.here().Text != word {
		return first
	}
	l := [][]api.Node{first}
	for r.take(word) {
		l = append(l, part())
	}
	return r.join(api.Node{Op: op}, l...)
}

func (r *reader) since() []api.Node {
	n := r.not()
	for r.take("since") {
		top := r.timed(api.OpSince)
		n = r.join(top, n, r.not())
	}
	return n
}

func (r *reader) not() []api.Node {
	var top api.Node
	switch {
	case r.take("not"):
		top.Op = api.OpNot
	case r.take("prev"):
		top.Op = api.OpPrev
	case r.take("once"):
		top = r.timed(api.OpOnce)
	case r.take("hist"):
		top = r.timed(api.OpHist)
	default:
		return r.unit()
	}
	return r.join(top, r.not())
}

// timed reads the interval of a part, if one is said.
func (r *reader) timed(op int) api.Node {
	n := api.Node{Op: op, To: api.Forever}
	if !r.take("[") {
		return n
	}
	n.From = r.integer()
	r.need(",")
	if !r.take("inf") {
		n.To = r.integer()
	}
	r.need("]")
	return n
}

func (r *reader) unit() []api.Node {
	switch {
	case r.take("true"):
		return r.join(api.Node{Op: api.OpTrue})
	case r.take("false"):
		return r.join(api.Node{Op: api.OpFalse})
	case r.take("("):
		n := r.formula()
		r.need(")")
		return n
	}
	return r.join(r.atom())
}

func (r *reader) atom() api.Node {
	n := api.Node{Op: api.OpAtom, Terms: r.sum()}
	if r.take("<=") {
		n.Num = r.num()
		return n
	}
	r.need(">=")
	n.Num = -r.num()
	for i := range n.Terms {
		n.Terms[i].Times *= -1
	}
	return n
}

func (r *reader) sum() []api.Term {
	l := []api.Term{r.term(r.take("-"))}
	for {
		switch {
		case r.take("+"):
			l = append(l, r.term(false))
		case r.take("-"):
			l = append(l, r.term(true))
		default:
			return l
		}
	}
}

func (r *reader) term(below bool) api.Term {
	t := api.Term{Times: api.One}
	if r.here().Kind == api.WordNumber {
		t.Times = r.number()
		r.need("*")
	}
	if below {
		t.Times = -t.Times
	}
	t.Name = r.name()
	return t
}
