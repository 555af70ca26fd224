package trace_test

import (
	"slices"
	"testing"

	"picket/api"
	"picket/core"
	"picket/trace"
	"picket/tree"
)

const forever = api.Forever

// thing is a formula with its parts within it.
type thing struct {
	api.Node
	parts []thing
}

// read tells the first part of a whole list, and what is behind it.
func read(n []api.Node) (thing, []api.Node) {
	x, rest := thing{Node: n[0]}, n[1:]
	for range n[0].N {
		var part thing
		part, rest = read(rest)
		x.parts = append(x.parts, part)
	}
	return x, rest
}

// list tells a thing as a list.
func (x thing) list() []api.Node {
	x.N = len(x.parts)
	n := []api.Node{x.Node}
	for _, part := range x.parts {
		n = append(n, part.list()...)
	}
	return n
}

// run is what a formula is looked at on.
type run struct {
	names []string
	rows  [][]api.Fix
}

// does tells the chapter's words of a place, looking at each place that they name.
func (r run) does(x thing, i int) bool {
	within := func(j int) bool { return i-j >= x.From && (x.To == forever || i-j <= x.To) }
	at := func(part, j int) bool { return r.does(x.parts[part], j) }
	switch x.Op {
	case api.OpTrue:
		return true
	case api.OpAtom:
		return modelAtom(x.Node, r.names, r.rows[i]) == holds
	case api.OpNot:
		return !at(0, i)
	case api.OpAnd:
		return !slices.ContainsFunc(x.parts, func(p thing) bool { return !r.does(p, i) })
	case api.OpOr:
		return slices.ContainsFunc(x.parts, func(p thing) bool { return r.does(p, i) })
	case api.OpThen:
		return !at(0, i) || at(1, i)
	case api.OpPrev:
		return i > 0 && at(0, i-1)
	case api.OpOnce, api.OpHist:
		for j := range i + 1 {
			if within(j) && at(0, j) == (x.Op == api.OpOnce) {
				return x.Op == api.OpOnce
			}
		}
		return x.Op == api.OpHist
	case api.OpSince:
		for j := range i + 1 {
			since := within(j) && at(1, j)
			for k := j + 1; k <= i; k++ {
				since = since && at(0, k)
			}
			if since {
				return true
			}
		}
	}
	return false
}

// overflows tells whether some atom of a formula does up to a place.
func (r run) overflows(n []api.Node, i int) bool {
	for _, row := range r.rows[:i+1] {
		if slices.ContainsFunc(n, func(p api.Node) bool { return p.Op == api.OpAtom && modelAtom(p, r.names, row) == overflows }) {
			return true
		}
	}
	return false
}

// model tells a formula's verdicts.
func (r run) model(n []api.Node) []int {
	x, _ := read(n)
	var l []int
	for i := range r.rows {
		switch {
		case r.overflows(n, i):
			l = append(l, api.Overflow)
		case r.does(x, i):
			l = append(l, api.True)
		default:
			l = append(l, api.False)
		}
	}
	return l
}

// someAtom tells an atom of one, two or three signals.
func someAtom(next func(int) int) thing {
	x := thing{Node: api.Node{Op: api.OpAtom, Num: (next(7) - 3) * one}}
	for range 1 + next(3)*next(2) {
		x.Terms = append(x.Terms, api.Term{Name: []string{"a", "b", "c", "z"}[next(4)], Times: (next(5) - 2) * one})
	}
	return x
}

// someThing tells one of some Ops, in which parts stand within at most so many others.
func someThing(next func(int) int, deep int, ops []int) thing {
	if deep == 0 || next(6) == 0 {
		if next(6) == 0 {
			return thing{Node: api.Node{Op: next(2)}}
		}
		return someAtom(next)
	}
	x := thing{Node: api.Node{Op: ops[next(len(ops))]}}
	count := 1
	switch x.Op {
	case api.OpAnd, api.OpOr:
		count = 2 + next(3)
	case api.OpThen, api.OpSince:
		count = 2
	}
	if x.Op == api.OpOnce || x.Op == api.OpHist || x.Op == api.OpSince {
		x.From = next(4)
		x.To = []int{forever, x.From, x.From + 1, x.From + 3}[next(4)]
	}
	for range count {
		x.parts = append(x.parts, someThing(next, deep-1, ops))
	}
	return x
}

func allOps() []int {
	return []int{api.OpNot, api.OpAnd, api.OpOr, api.OpThen, api.OpPrev, api.OpOnce, api.OpHist, api.OpSince}
}

func coreOps() []int { return []int{api.OpNot, api.OpOr, api.OpPrev, api.OpSince} }

// someRun tells rows of all lengths, now and then with a number that is great.
func someRun(next func(int) int) run {
	r := run{names: []string{"b", "a", "c", "a"}[:1+next(4)]}
	great := next(2) == 0
	for range next(9) {
		var row []api.Fix
		for range next(6) {
			row = append(row, (next(7)-3)*one)
		}
		if great && len(row) > 0 && next(3) == 0 {
			row[next(len(row))] = []api.Fix{top, low}[next(2)]
		}
		r.rows = append(r.rows, row)
	}
	return r
}

// check holds a formula's verdicts against what is wanted, at each place alone too.
func (r run) check(t *testing.T, n []api.Node, want []int) {
	t.Helper()
	got, e := trace.All(n, r.names, r.rows)
	if e != api.OK || !slices.Equal(got, want) {
		t.Errorf("All(%s, %q, %d): %d, %d, not %d", short(n), r.names, r.rows, got, e, want)
	}
	for i := -1; i <= len(r.rows); i++ {
		v, e := trace.Holds(n, r.names, r.rows, i)
		if i < 0 || i == len(r.rows) {
			if v != 0 || e != api.ErrIndex {
				t.Errorf("Holds of %d rows at %d: %d, %d", len(r.rows), i, v, e)
			}
		} else if e != api.OK || v != want[i] {
			t.Errorf("Holds(%s, %q, %d, %d): %d, %d, not %d", short(n), r.names, r.rows, i, v, e, want[i])
		}
	}
}

// P902, P903: strewn formulas, trees and such that are core formulas.
func TestStrewnFormulas(t *testing.T) {
	next := strewn(2)
	var seen [3]int
	for k := range 30000 {
		ops := allOps()
		if k%3 == 0 {
			ops = coreOps()
		}
		n, r := someThing(next, 1+next(4), ops).list(), someRun(next)
		if !tree.Valid(n) && !core.IsCore(n) {
			continue
		}
		want := r.model(n)
		r.check(t, n, want)
		for _, v := range want {
			seen[v]++
		}
	}
	if min(seen[0], seen[1], seen[2]) < 8000 {
		t.Errorf("too few of a kind: %d", seen)
	}
}

// P803: where no atom overflows, a core holds just where its formula does.
func TestCoresHoldWhereFormulasDo(t *testing.T) {
	next := strewn(3)
	var seen [3]int
	for range 60000 {
		n, r := someThing(next, 1+next(5), allOps()).list(), someRun(next)
		normed, e := core.Norm(n)
		if e != api.OK {
			continue // it has too many parts
		}
		of, _ := trace.All(n, r.names, r.rows)
		cores, e := trace.All(normed, r.names, r.rows)
		if e != api.OK || len(cores) != len(of) {
			t.Errorf("All of the core of %v: %d, %d", n, cores, e)
		}
		for i, v := range of {
			// A core may have left out the atom that overflows.
			if v != api.Overflow && cores[i] != v {
				t.Errorf("%v: %d, its core %v: %d on %q, %d", n, of, normed, cores, r.names, r.rows)
			}
			seen[v]++
		}
	}
	if min(seen[0], seen[1]) < 30000 {
		t.Errorf("too few of a kind: %d", seen)
	}
}
