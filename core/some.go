package core

import (
	"picket/api"
	"picket/tree"
)

// some are formulas of which one has to hold: none is false, and no two are the same. By their marks they are found without looking at each one.
type some struct {
	list   [][]api.Node
	marked map[uint64][]int // where in the list those of a mark stand
}

// add puts formulas behind the others, but those that say nothing more.
func (s *some) add(l ...[]api.Node) {
	if s.marked == nil {
		s.marked = make(map[uint64][]int)
	}
	for _, n := range l {
		if !is(n, api.OpFalse) && !s.has(n) {
			m := mark(n)
			s.marked[m] = append(s.marked[m], len(s.list))
			s.list = append(s.list, n)
		}
	}
}

func (s *some) has(n []api.Node) bool {
	for _, i := range s.marked[mark(n)] {
		if tree.Same(s.list[i], n) {
			return true
		}
	}
	return false
}

// surely tells whether one of them holds at all times: true does, and so does a formula or its Not.
func (s *some) surely() bool {
	for _, n := range s.list {
		if is(n, api.OpTrue) || is(n, api.OpNot) && s.has(n[1:]) {
			return true
		}
	}
	return false
}

// mark tells a number that is the same for formulas that are.
func mark(n []api.Node) uint64 {
	var m uint64
	mix := func(l ...int) {
		for _, v := range l {
			m = (m^m>>32)*0x9e3779b97f4a7c15 + uint64(v)
		}
	}
	for _, part := range n {
		mix(part.Op, part.N, part.From, part.To, part.Num)
		for _, t := range part.Terms {
			mix(t.Times)
			for _, b := range []byte(t.Name) {
				mix(int(b))
			}
		}
	}
	return m
}
