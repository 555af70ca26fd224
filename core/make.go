package core

import (
	"picket/api"
	"picket/tree"
)

// Not turns a formula.
func Not(n []api.Node) []api.Node {
	switch {
	case is(n, api.OpFalse):
		return yes()
	case is(n, api.OpTrue):
		return no()
	case is(n, api.OpNot):
		return tree.Join(n[1:])
	}
	return tree.Make(api.Node{Op: api.OpNot}, n)
}

// Or holds, if one does.
func Or(l ...[]api.Node) []api.Node {
	var s some
	for _, n := range l {
		if is(n, api.OpOr) {
			s.add(tree.Split(n)...)
		} else {
			s.add(n)
		}
	}
	switch {
	case s.surely():
		return yes()
	case len(s.list) == 0:
		return no()
	case len(s.list) == 1:
		return tree.Join(s.list...)
	}
	return tree.Make(api.Node{Op: api.OpOr}, s.list...)
}

// And holds, if all do.
func And(l ...[]api.Node) []api.Node {
	var nots [][]api.Node
	for _, n := range l {
		nots = append(nots, Not(n))
	}
	return Not(Or(nots...))
}

// Prev holds, if it did a tick ago.
func Prev(n []api.Node) []api.Node {
	if is(n, api.OpFalse) {
		return no()
	}
	return tree.Make(api.Node{Op: api.OpPrev}, n)
}

// Since holds, if the second one did within a time, and the first one ever since.
func Since(from, to int, p, q []api.Node) []api.Node {
	switch {
	case is(q, api.OpFalse) || isNever(from, to):
		return no()
	case from == 0 && to == 0:
		return tree.Join(q)
	case is(p, api.OpFalse) && from == 0:
		return tree.Join(q)
	case is(p, api.OpFalse):
		return no()
	}
	return tree.Make(api.Node{Op: api.OpSince, From: from, To: to}, p, q)
}

// is tells whether a formula's first part is of that Op.
func is(n []api.Node, op int) bool { return len(n) > 0 && n[0].Op == op }

func yes() []api.Node { return tree.Make(api.Node{Op: api.OpTrue}) }

func no() []api.Node { return tree.Make(api.Node{Op: api.OpFalse}) }
