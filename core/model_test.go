package core_test

import (
	"fmt"
	"reflect"
	"slices"
	"testing"

	"picket/api"
	"picket/core"
	"picket/tree"
)

// equal tells whether two lists are the same, nil and empty ones too.
func equal(a, b []api.Node) bool {
	return slices.EqualFunc(a, b, func(x, y api.Node) bool {
		terms := slices.Equal(x.Terms, y.Terms)
		x.Terms, y.Terms = nil, nil
		return terms && reflect.DeepEqual(x, y)
	})
}

// thing is a formula with its parts within it.
type thing struct {
	node  api.Node
	parts []thing
}

// read tells the first part of a whole list, and what is behind it.
func read(n []api.Node) (thing, []api.Node) {
	x, rest := thing{node: n[0]}, n[1:]
	for range n[0].N {
		var part thing
		part, rest = read(rest)
		x.parts = append(x.parts, part)
	}
	return x, rest
}

// list tells a thing as a list.
func (x thing) list() []api.Node {
	x.node.N = len(x.parts)
	n := []api.Node{x.node}
	for _, part := range x.parts {
		n = append(n, part.list()...)
	}
	return n
}

func (x thing) String() string {
	return fmt.Sprint(x.node.Op, x.node.From, x.node.To, x.node.Num, x.node.Terms, x.parts)
}

func simple(op int, parts ...thing) thing { return thing{api.Node{Op: op}, parts} }

func (x thing) is(op int) bool { return x.node.Op == op }

func modelNot(x thing) thing {
	switch x.node.Op {
	case api.OpTrue:
		return simple(api.OpFalse)
	case api.OpFalse:
		return simple(api.OpTrue)
	case api.OpNot:
		return x.parts[0]
	}
	return simple(api.OpNot, x)
}

func modelOr(l ...thing) thing {
	var all, left []thing
	for _, x := range l {
		if x.is(api.OpOr) {
			all = append(all, x.parts...)
		} else {
			all = append(all, x)
		}
	}
	for i, x := range all {
		first := slices.IndexFunc(all, func(y thing) bool { return y.String() == x.String() })
		if !x.is(api.OpFalse) && first == i {
			left = append(left, x)
		}
	}
	for _, x := range left {
		for _, y := range left {
			if x.is(api.OpTrue) || x.String() == modelNot(y).String() {
				return simple(api.OpTrue)
			}
		}
	}
	switch len(left) {
	case 0:
		return simple(api.OpFalse)
	case 1:
		return left[0]
	}
	return simple(api.OpOr, left...)
}

func modelAnd(l ...thing) thing {
	var nots []thing
	for _, x := range l {
		nots = append(nots, modelNot(x))
	}
	return modelNot(modelOr(nots...))
}

func modelPrev(x thing) thing {
	if x.is(api.OpFalse) {
		return x
	}
	return simple(api.OpPrev, x)
}

func modelSince(from, to int, p, q thing) thing {
	none := simple(api.OpFalse)
	if q.is(api.OpFalse) || to != forever && to < from {
		return none
	}
	if from == 0 && to == 0 {
		return q
	}
	if p.is(api.OpFalse) {
		if from == 0 {
			return q
		}
		return none
	}
	return thing{api.Node{Op: api.OpSince, From: from, To: to}, []thing{p, q}}
}

func modelNorm(x thing) thing {
	var l []thing
	for _, part := range x.parts {
		l = append(l, modelNorm(part))
	}
	n, always := x.node, simple(api.OpTrue)
	switch n.Op {
	case api.OpNot:
		return modelNot(l[0])
	case api.OpAnd:
		return modelAnd(l...)
	case api.OpOr:
		return modelOr(l...)
	case api.OpThen:
		return modelOr(modelNot(l[0]), l[1])
	case api.OpPrev:
		return modelPrev(l[0])
	case api.OpOnce:
		return modelSince(n.From, n.To, always, l[0])
	case api.OpHist:
		return modelNot(modelSince(n.From, n.To, always, modelNot(l[0])))
	case api.OpSince:
		return modelSince(n.From, n.To, l[0], l[1])
	}
	return x
}

// strewn tells numbers that look like chance, and are the same each time.
func strewn(seed uint64) func(int) int {
	return func(n int) int {
		seed = seed*6364136223846793005 + 1442695040888963407
		return int(seed>>33) % n
	}
}

// someThing tells one of some Ops, in which parts stand within at most so many others. Its atoms are few, so that the same ones come again.
func someThing(next func(int) int, deep int, ops []int) thing {
	if deep == 0 || next(6) == 0 {
		if next(4) == 0 {
			return simple(next(2))
		}
		return thing{node: api.Node{Op: api.OpAtom, Num: api.One / 2, Terms: []api.Term{{Name: []string{"a", "b", "c"}[next(3)], Times: api.One}}}}
	}
	op := ops[next(len(ops))]
	x := simple(op)
	count := 1
	switch op {
	case api.OpAnd, api.OpOr:
		count = 2 + next(3)
	case api.OpThen, api.OpSince:
		count = 2
	}
	if op == api.OpOnce || op == api.OpHist || op == api.OpSince {
		x.node.From = next(3)
		x.node.To = []int{forever, x.node.From, x.node.From + 1, x.node.From + 3}[next(4)]
	}
	for range count {
		x.parts = append(x.parts, someThing(next, deep-1, ops))
	}
	return x
}

var allOps = []int{api.OpNot, api.OpAnd, api.OpOr, api.OpThen, api.OpPrev, api.OpOnce, api.OpHist, api.OpSince}

var coreOps = []int{api.OpNot, api.OpOr, api.OpPrev, api.OpSince}

// P802: strewn formulas.
func TestNormOfStrewnFormulas(t *testing.T) {
	next := strewn(1)
	for range 10000 {
		x := someThing(next, next(7), allOps)
		n := x.list()
		if !tree.Valid(n) {
			checkNorm(t, n, nil, api.ErrText)
			continue
		}
		want := modelNorm(x).list()
		if len(want) > 600 {
			checkNorm(t, n, nil, api.ErrLong)
			continue
		}
		checkNorm(t, n, want, api.OK)
		checkNorm(t, n[:len(n)-1], nil, api.ErrText)
	}
}

// P801: strewn core formulas, such as no maker makes among them.
func TestMakersOfStrewnFormulas(t *testing.T) {
	next := strewn(2)
	check := func(what string, got []api.Node, want thing) {
		t.Helper()
		if !equal(got, want.list()) || !core.IsCore(got) {
			t.Errorf("%s: %v, not %v", what, got, want)
		}
	}
	for range 10000 {
		var l []thing
		var lists [][]api.Node
		for range next(5) {
			x := someThing(next, next(4), coreOps)
			if next(3) == 0 {
				x = modelNorm(x)
			}
			if len(l) > 0 && next(4) == 0 {
				x = modelNot(l[next(len(l))])
			}
			l, lists = append(l, x), append(lists, x.list())
		}
		check("Or", core.Or(lists...), modelOr(l...))
		check("And", core.And(lists...), modelAnd(l...))
		if len(l) < 2 {
			continue
		}
		from := next(3)
		to := []int{forever, 0, 1, 2, 3}[next(5)]
		check("Not", core.Not(lists[0]), modelNot(l[0]))
		check("Prev", core.Prev(lists[0]), modelPrev(l[0]))
		check("Since", core.Since(from, to, lists[0], lists[1]), modelSince(from, to, l[0], l[1]))
	}
}

// holds tells what a formula means at a place: rows have the values of a, b and c.
func (x thing) holds(rows [][3]bool, i int) bool {
	within := func(j int) bool { return i-j >= x.node.From && (x.node.To == forever || i-j <= x.node.To) }
	at := func(part, j int) bool { return x.parts[part].holds(rows, j) }
	any, all := false, true
	for part := range x.parts {
		if x.is(api.OpAnd) || x.is(api.OpOr) {
			any, all = any || at(part, i), all && at(part, i)
		}
	}
	switch x.node.Op {
	case api.OpTrue:
		return true
	case api.OpAtom:
		return rows[i][x.node.Terms[0].Name[0]-'a']
	case api.OpNot:
		return !at(0, i)
	case api.OpAnd:
		return all
	case api.OpOr:
		return any
	case api.OpThen:
		return !at(0, i) || at(1, i)
	case api.OpPrev:
		return i > 0 && at(0, i-1)
	case api.OpOnce, api.OpHist:
		for j := 0; j <= i; j++ {
			if within(j) && at(0, j) == x.is(api.OpOnce) {
				return x.is(api.OpOnce)
			}
		}
		return x.is(api.OpHist)
	case api.OpSince:
		for j := i; j >= 0; j-- {
			if within(j) && at(1, j) {
				return true
			}
			if !at(0, j) {
				return false
			}
		}
	}
	return false
}

// P803: a core holds just where its formula does.
func TestNormHoldsWhereTheFormulaDoes(t *testing.T) {
	next := strewn(3)
	both := [2]int{}
	for range 40000 {
		x := someThing(next, 1+next(4), allOps)
		n, e := core.Norm(x.list())
		if e != api.OK {
			t.Fatalf("Norm(%v): %d", x, e)
		}
		y, _ := read(n)
		rows := make([][3]bool, 7)
		for i := range rows {
			rows[i] = [3]bool{next(3) > 0, next(2) > 0, next(3) == 0}
		}
		for i := range rows {
			want := x.holds(rows, i)
			if y.holds(rows, i) != want {
				t.Errorf("%v holds at place %d of %v, or %v does, but not both", x, i, rows, y)
			}
			both[map[bool]int{false: 0, true: 1}[want]]++
		}
	}
	if both[0] < 50000 || both[1] < 50000 {
		t.Errorf("formulas held %d times, and did not %d times", both[1], both[0])
	}
}

// roomy tells the same list with spare room behind it, behind its Terms too.
func roomy(n []api.Node) []api.Node {
	l := make([]api.Node, len(n), len(n)+5)
	for i, x := range n {
		terms := make([]api.Term, len(x.Terms), len(x.Terms)+2)
		copy(terms, x.Terms)
		x.Terms = terms
		l[i] = x
	}
	return l
}

// whole tells all that a list has, its spare room too.
func whole(n []api.Node) []api.Node {
	var l []api.Node
	for _, x := range n[:cap(n)] {
		x.Terms = slices.Clone(x.Terms[:cap(x.Terms)])
		l = append(l, x)
	}
	return l
}

// spoil writes over all that a list has.
func spoil(n []api.Node) {
	for i := range n[:cap(n)] {
		x := &n[:cap(n)][i]
		for k := range x.Terms[:cap(x.Terms)] {
			x.Terms[:cap(x.Terms)][k] = api.Term{Name: "spoilt", Times: i}
		}
		x.Op, x.N, x.Num = 99, 99, 99
	}
}

// checkLists holds a call against the rules of lists: what is handed in stays as it was, and what is told has lists of its own.
func checkLists(t *testing.T, call func(l ...[]api.Node) []api.Node, l ...[]api.Node) {
	t.Helper()
	var in, before [][]api.Node
	for _, n := range l {
		in = append(in, roomy(n))
		before = append(before, whole(in[len(in)-1]))
	}
	spare := append(in, nil, nil)[:len(in)]
	got := call(spare...)
	for i, n := range in {
		if !equal(whole(n), before[i]) {
			t.Errorf("%v became %v", before[i], n)
		}
	}
	if rest := spare[len(spare):cap(spare)]; rest[0] != nil || rest[1] != nil {
		t.Error("spare room was written to")
	}
	want := whole(got[:len(got):len(got)])
	for _, n := range in {
		spoil(n)
	}
	if !equal(whole(got[:len(got):len(got)]), want) {
		t.Errorf("what was told hangs on what was handed in: %v became %v", want, got)
	}
	for i := range got {
		for k := range got[i].Terms[:cap(got[i].Terms)] {
			got[i].Terms[:cap(got[i].Terms)][k].Times = i
		}
	}
	for i := range got {
		for _, x := range got[i].Terms[:cap(got[i].Terms)] {
			if x.Times != i {
				t.Errorf("part %d of %v shares its Terms", i, got)
			}
		}
	}
}

// P801, P802: lists.
func TestLists(t *testing.T) {
	a, b, o := formula(t, "2*a - b <= 1"), formula(t, "c <= 1"), formula(t, "a <= 1 or b <= 1 or b <= 1")
	since := func(from, to int) func(l ...[]api.Node) []api.Node {
		return func(l ...[]api.Node) []api.Node { return core.Since(from, to, l[0], l[1]) }
	}
	first := func(make func(n []api.Node) []api.Node) func(l ...[]api.Node) []api.Node {
		return func(l ...[]api.Node) []api.Node { return make(l[0]) }
	}
	for _, n := range [][]api.Node{a, o, core.Not(a), core.Not(o), core.Prev(o), formula(t, "true"), formula(t, "false")} {
		checkLists(t, first(core.Not), n)
		checkLists(t, first(core.Prev), n)
		for _, m := range [][]api.Node{a, b, o, core.Not(b), formula(t, "false")} {
			for _, call := range []func(l ...[]api.Node) []api.Node{core.Or, core.And, since(0, 0), since(0, 3), since(2, 3), since(3, 2), since(2, forever)} {
				checkLists(t, call, n, m)
				checkLists(t, call, n, n)
			}
		}
	}
	checkLists(t, core.Or, a)
	checkLists(t, core.Or, o)
	checkLists(t, core.And, o)
	checkLists(t, core.Or, a, b, o, a, core.Not(b))
	norm := first(func(n []api.Node) []api.Node { m, _ := core.Norm(n); return m })
	next := strewn(4)
	for range 1000 {
		checkLists(t, norm, someThing(next, next(5), allOps).list())
	}
	same := roomy(a)
	told := core.Since(1, 2, same, same)
	told[1].Terms[0].Name = "z"
	if told[3-1].Terms[0].Name != "a" || same[0].Terms[0].Name != "a" {
		t.Error("a formula that is handed in twice has its Terms in one list")
	}
}
