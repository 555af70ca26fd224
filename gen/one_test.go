package gen_test

import (
	"math"
	"slices"
	"strconv"
	"testing"

	"picket/api"
	"picket/core"
	"picket/gen"
	"picket/kinds"
	"picket/tree"
)

func oneTells(t *testing.T, s *kinds.Sheet, n []api.Node, cell int, ahead []api.Atom, codes []api.Code, atoms []api.Atom, next int) {
	t.Helper()
	gotCodes, gotAtoms, gotNext, e := gen.One(s, n, cell, ahead)
	if e != api.OK || gotNext != next || !slices.Equal(gotCodes, codes) || !sameAtoms(gotAtoms, atoms) {
		t.Errorf("One(%s, %d, %s): %s; %s; %d, %d, not %s; %s; %d", short(n), cell, short(ahead), short(gotCodes), short(gotAtoms), gotNext, e, short(codes), short(atoms), next)
	}
}

func oneFails(t *testing.T, s *kinds.Sheet, n []api.Node, want api.Errno) {
	t.Helper()
	for _, ahead := range [][]api.Atom{nil, {}, {{Num: 7}}} {
		for _, cell := range []int{0, 5, -1} {
			codes, atoms, next, e := gen.One(s, n, cell, ahead)
			if len(codes) != 0 || len(atoms) != 0 || next != 0 || e != want {
				t.Errorf("One(%s): %s; %s; %d, %d, not %d", short(n), short(codes), short(atoms), next, e, want)
			}
		}
	}
}

func of(op int, l ...[]api.Node) []api.Node { return tree.Make(api.Node{Op: op}, l...) }

func sinceOf(from, to int, p, q []api.Node) []api.Node {
	return tree.Make(api.Node{Op: api.OpSince, From: from, To: to}, p, q)
}

func bound(num api.Fix, l ...api.Weight) api.Atom { return api.Atom{Terms: l, Num: num} }

// P1002: each kind of part, the parts first, from the left.
func TestOne(t *testing.T) {
	s := sheetOf(t, api.Limits{})
	yes, no, a, b := of(api.OpTrue), of(api.OpFalse), formula(t, "a <= 1"), formula(t, "b <= 2")
	aAtom, bAtom := bound(one, api.Weight{Times: one}), bound(2*one, api.Weight{Signal: 1, Times: one})
	oneTells(t, s, yes, 0, nil, []api.Code{{Do: 0}}, nil, 0)
	oneTells(t, s, no, 0, nil, []api.Code{{Do: 1}}, nil, 0)
	oneTells(t, s, b, 0, nil, []api.Code{{Do: 2}}, []api.Atom{bAtom}, 0)
	oneTells(t, s, of(api.OpNot, a), 0, nil, []api.Code{{Do: 2}, {Do: 3}}, []api.Atom{aAtom}, 0)
	oneTells(t, s, of(api.OpNot, of(api.OpNot, yes)), 0, nil, []api.Code{{Do: 0}, {Do: 3}, {Do: 3}}, nil, 0)
	oneTells(t, s, of(api.OpOr, a, b, yes), 0, nil, []api.Code{{Do: 2}, {Do: 2, A: 1}, {Do: 0}, {Do: 5, A: 3}}, []api.Atom{aAtom, bAtom}, 0)
	oneTells(t, s, of(api.OpPrev, of(api.OpPrev, b)), 0, nil, []api.Code{{Do: 2}, {Do: 6}, {Do: 6, A: 1}}, []api.Atom{bAtom}, 2)
	oneTells(t, s, sinceOf(2, 5, b, a), 0, nil, []api.Code{{Do: 2}, {Do: 2, A: 1}, {Do: 7, From: 2, To: 5}}, []api.Atom{bAtom, aAtom}, 6)
	oneTells(t, s, sinceOf(0, forever, no, yes), 0, nil, []api.Code{{Do: 1}, {Do: 0}, {Do: 7, To: forever}}, nil, 1)
	oneTells(t, s, sinceOf(3, forever, no, yes), 0, nil, []api.Code{{Do: 1}, {Do: 0}, {Do: 7, From: 3, To: forever}}, nil, 4)
	oneTells(t, s, sinceOf(0, 0, no, yes), 0, nil, []api.Code{{Do: 1}, {Do: 0}, {Do: 7}}, nil, 1)
	oneTells(t, s, of(api.OpOr, of(api.OpOr, of(api.OpNot, a), b), of(api.OpPrev, no)), 0, nil, []api.Code{{Do: 2}, {Do: 3}, {Do: 2, A: 1}, {Do: 5, A: 2}, {Do: 1}, {Do: 6}, {Do: 5, A: 2}}, []api.Atom{aAtom, bAtom}, 1)
}

// P1002: cells are given out in the order of the instructions, from any number on.
func TestOneOfCells(t *testing.T) {
	s := sheetOf(t, api.Limits{})
	yes := of(api.OpTrue)
	n := of(api.OpPrev, of(api.OpOr, sinceOf(3, 4, of(api.OpPrev, yes), sinceOf(2, forever, yes, yes)), of(api.OpPrev, yes), sinceOf(0, forever, yes, yes)))
	for _, cell := range []int{0, 1, 7, 20000, 1 << 40, -1, -3, -100, math.MinInt} {
		oneTells(t, s, n, cell, nil, []api.Code{
			{Do: 0}, {Do: 6, A: cell}, {Do: 0}, {Do: 0}, {Do: 7, A: cell + 1, From: 2, To: forever}, {Do: 7, A: cell + 4, From: 3, To: 4},
			{Do: 0}, {Do: 6, A: cell + 9}, {Do: 0}, {Do: 0}, {Do: 7, A: cell + 10, To: forever}, {Do: 5, A: 3}, {Do: 6, A: cell + 11},
		}, nil, cell+12)
		oneTells(t, s, yes, cell, nil, []api.Code{{Do: 0}}, nil, cell)
	}
	wide := sinceOf(5, maxInt, yes, sinceOf(maxInt, forever, yes, yes))
	oneTells(t, s, wide, 1, nil, []api.Code{{Do: 0}, {Do: 0}, {Do: 0}, {Do: 7, A: 1, From: maxInt, To: forever}, {Do: 7, A: 1<<31 + 1, From: 5, To: maxInt}}, nil, 1<<32+1)
	if codes, _, _, e := gen.One(s, wide, math.MaxInt, nil); len(codes) != 5 || e != api.OK {
		t.Errorf("One with the greatest cell: %v, %d", codes, e)
	}
}

// P1002: what is no core formula, or of no sheet.
func TestOneOfWhatIsNoCore(t *testing.T) {
	s, zero := sheetOf(t, api.Limits{}), &kinds.Sheet{}
	yes, z := of(api.OpTrue), formula(t, "z <= 1")
	for _, n := range [][]api.Node{
		nil, {}, append(of(api.OpTrue), yes...), {{Op: api.OpNot, N: 1}}, {{Op: 11}}, {{Op: -1}}, {{Op: api.OpNot, N: 2}, {}, {}}, {{Op: api.OpOr, N: 1}, {}}, {{Op: api.OpOr, N: 3}, {}, {}},
		{{Op: api.OpAtom}}, {{Op: api.OpTrue, From: 1}}, {{Op: api.OpOr, N: math.MaxInt}, {}, {}}, {{Op: api.OpNot, N: math.MinInt}},
		{{Op: api.OpAtom, Terms: []api.Term{{Name: "a", Times: low}}}}, {{Op: api.OpAtom, Terms: make([]api.Term, 17)}},
		sinceOf(3, 2, yes, yes), sinceOf(-1, 2, yes, yes), sinceOf(0, -2, yes, yes), sinceOf(0, maxInt+1, yes, yes), sinceOf(3, 2, z, yes),
		formula(t, "a <= 1 and b <= 1"), formula(t, "a <= 1 => b <= 1"), formula(t, "once a <= 1"), formula(t, "hist a <= 1"), formula(t, "not prev (z <= 1 or once true)"), formula(t, "z <= 1 and true"),
	} {
		for _, x := range []*kinds.Sheet{s, zero, nil} {
			oneFails(t, x, n, api.ErrArg)
		}
	}
	for _, text := range []string{"true", "a <= 1", "z <= 1", "prev a <= 1 or not true"} {
		oneFails(t, nil, formula(t, text), api.ErrArg)
	}
}

// P1002: signals that are not known, wherever they stand.
func TestOneOfNames(t *testing.T) {
	s, zero := sheetOf(t, api.Limits{}), &kinds.Sheet{}
	for _, text := range []string{"z <= 1", "a + z <= 1", "z - a <= 1", "aa <= 1", "A <= 1", "m <= 1", "s <= 1", "0*z <= 1", "not prev (a <= 1 or b + z <= 1)", "true since z <= 1", "z <= 1 since[2, 1000] a <= 1", "a <= 1 or a <= 2 or z <= 1"} {
		oneFails(t, s, formula(t, text), api.ErrName)
		oneFails(t, zero, formula(t, text), api.ErrName)
	}
	oneFails(t, zero, formula(t, "a <= 1"), api.ErrName)
	oneTells(t, zero, formula(t, "true or prev false"), 0, nil, []api.Code{{Do: 0}, {Do: 1}, {Do: 6}, {Do: 5, A: 2}}, nil, 1)
	other, _, _ := kinds.New(api.Spec{Signals: []api.Signal{signal("b"), {Name: "a", Unit: "s"}}})
	oneTells(t, other, formula(t, "a + b <= 1"), 0, nil, []api.Code{{Do: 2}}, []api.Atom{bound(one, api.Weight{Signal: 1, Times: one}, api.Weight{Times: one})}, 0)
}

// P1002: an atom is one of those ahead, or of those of the formula, just if it is the same.
func TestOneOfAtoms(t *testing.T) {
	s := sheetOf(t, api.Limits{})
	a, b := api.Weight{Times: one}, api.Weight{Signal: 1, Times: one}
	twice := api.Weight{Signal: 1, Times: 2 * one}
	n := formula(t, "a + b <= 1")
	same := bound(one, a, b)
	others := []api.Atom{
		{}, {Num: one}, bound(one), bound(one, a), bound(one, b), bound(one, b, a), bound(one, a, a), bound(one, b, b), bound(one, a, twice), bound(2*one, a, b), bound(0, a, b), bound(-one, a, b), bound(one, a, b, a), bound(one, a, b, api.Weight{}), bound(one, api.Weight{}, a, b),
		bound(one, api.Weight{Signal: 2, Times: one}, b), bound(one, a, api.Weight{Signal: 2, Times: one}), bound(one, a, api.Weight{Signal: -1, Times: one}), bound(one, a, api.Weight{Signal: 1, Times: -one}), bound(one, a, api.Weight{Signal: 1}), bound(low, api.Weight{Signal: math.MinInt, Times: top}),
		bound(one, slices.Concat([]api.Weight{a, b}, make([]api.Weight, 14))...), bound(one, slices.Concat([]api.Weight{a, b}, make([]api.Weight, 15))...), bound(one, slices.Concat([]api.Weight{a, b}, make([]api.Weight, 500))...),
	}
	oneTells(t, s, n, 0, others, []api.Code{{Do: 2, A: len(others)}}, append(slices.Clone(others), same), 0)
	for i := range len(others) + 1 {
		ahead := slices.Insert(slices.Clone(others), i, same)
		oneTells(t, s, n, 0, ahead, []api.Code{{Do: 2, A: i}}, ahead, 0)
		// Of two that are the same the first one is taken.
		oneTells(t, s, n, 0, slices.Concat(ahead, []api.Atom{same, same}), []api.Code{{Do: 2, A: i}}, slices.Concat(ahead, []api.Atom{same, same}), 0)
	}
	// Those that stand in one formula.
	oneTells(t, s, of(api.OpOr, n, n), 0, nil, []api.Code{{Do: 2}, {Do: 2}, {Do: 5, A: 2}}, []api.Atom{same}, 0)
	m := of(api.OpOr, n, formula(t, "b + a <= 1"), n, formula(t, "a + b <= 2"), of(api.OpPrev, formula(t, "b + a <= 1")), formula(t, "a + b <= 1"), formula(t, "a + 2*b <= 1"))
	oneTells(t, s, m, 0, nil, []api.Code{{Do: 2}, {Do: 2, A: 1}, {Do: 2}, {Do: 2, A: 2}, {Do: 2, A: 1}, {Do: 6}, {Do: 2}, {Do: 2, A: 3}, {Do: 5, A: 7}}, []api.Atom{same, bound(one, b, a), bound(2*one, a, b), bound(one, a, twice)}, 1)
	// Atoms that no formula of these has stay, too.
	oneTells(t, s, of(api.OpTrue), 3, others, []api.Code{{Do: 0}}, others, 3)
}

// P1002: an atom of as many terms as there can be.
func TestOneOfManyTerms(t *testing.T) {
	var l []api.Signal
	n := []api.Node{{Op: api.OpAtom, Num: -7}}
	a := api.Atom{Num: -7}
	for i := range 16 {
		name := "s" + strconv.Itoa(i)
		l = append(l, signal(name))
		n[0].Terms = append(n[0].Terms, api.Term{Name: name, Times: top - i})
		a.Terms = append(a.Terms, api.Weight{Signal: i, Times: top - i})
	}
	s, _, _ := kinds.New(api.Spec{Signals: l})
	oneTells(t, s, n, 0, nil, []api.Code{{Do: 2}}, []api.Atom{a}, 0)
	oneTells(t, s, n, 0, []api.Atom{{}, a}, []api.Code{{Do: 2, A: 1}}, []api.Atom{{}, a}, 0)
	for i := range 16 {
		b := bound(a.Num, slices.Clone(a.Terms)...)
		b.Terms[i].Times--
		oneTells(t, s, n, 0, []api.Atom{b}, []api.Code{{Do: 2, A: 1}}, []api.Atom{b, a}, 0)
	}
}

// P1002: core formulas that are no trees for their depth or their many parts.
func TestOneOfGreatFormulas(t *testing.T) {
	s := sheetOf(t, api.Limits{})
	var deep []api.Node
	var codes []api.Code
	for i := range 60000 {
		deep = append(deep, api.Node{Op: []int{api.OpNot, api.OpPrev}[i%2], N: 1})
		codes = append(codes, [2]api.Code{{Do: 6, A: 5 + i/2}, {Do: 3}}[i%2])
	}
	deep = append(deep, formula(t, "c <= 3")...)
	codes = append([]api.Code{{Do: 2}}, codes...)
	oneTells(t, s, deep, 5, nil, codes, []api.Atom{bound(3*one, api.Weight{Signal: 2, Times: one})}, 30005)

	wide, codes := []api.Node{{Op: api.OpOr, N: 200000}}, nil
	var atoms []api.Atom
	for i := range 200000 {
		wide = append(wide, api.Node{Op: api.OpAtom, Num: i / 2, Terms: []api.Term{{Name: "b", Times: one}}})
		codes = append(codes, do(api.DoAtom, i/2))
		if i%2 == 0 {
			atoms = append(atoms, bound(i/2, api.Weight{Signal: 1, Times: one}))
		}
	}
	oneTells(t, s, wide, 0, nil, append(codes, do(api.DoOr, 200000)), atoms, 0)
}

// P1002: strewn formulas, with atoms ahead of them.
func TestOneOfStrewnFormulas(t *testing.T) {
	s := sheetOf(t, api.Limits{})
	next := strewn(1)
	var ahead []api.Atom
	shared := 0
	for i := range 5000 {
		x := someThing(next, next(6))
		cell := next(9) - 4
		m := model{names: []string{"a", "b", "c"}, atoms: slices.Clone(ahead), cell: cell}
		m.put(x)
		oneTells(t, s, x.list(), cell, ahead, m.codes, m.atoms, m.cell)
		if len(m.atoms) == len(ahead) && slices.ContainsFunc(m.codes, func(c api.Code) bool { return c.Do == api.DoAtom }) {
			shared++
		}
		ahead = m.atoms
		if i%10 == 0 {
			ahead = nil
		}
	}
	if shared < 500 {
		t.Errorf("only %d formulas whose atoms were all ahead", shared)
	}
}

// P1004: one instruction for each part; the cells are the sums of the parts', wherever they begin.
func TestOneOfItsParts(t *testing.T) {
	s := sheetOf(t, api.Limits{})
	next := strewn(2)
	for range 2000 {
		n := someThing(next, next(5)).list()
		codes, _, cells, e := gen.One(s, n, 0, nil)
		if len(codes) != len(n) || e != api.OK {
			t.Errorf("One(%v): %d instructions, %d", n, len(codes), e)
		}
		sum := 0
		for _, part := range tree.Split(n) {
			_, _, more, _ := gen.One(s, part, 0, nil)
			sum += more
		}
		own := gen.Cells(codes[len(codes)-1:]...)
		if own > 0 {
			own -= codes[len(codes)-1].A
		}
		if cells != sum+own || cells != gen.Cells(codes...) {
			t.Errorf("One(%v): %d cells, not %d and %d, nor %d", n, cells, sum, own, gen.Cells(codes...))
		}
		if _, _, behind, _ := gen.One(s, n, 40, nil); behind != 40+cells {
			t.Errorf("One(%v) from 40: %d cells, not %d", n, behind-40, cells)
		}
	}
}

// roomyAtoms tells atoms with spare room in each list.
func roomyAtoms() []api.Atom {
	l := append(make([]api.Atom, 0, 9), bound(one, api.Weight{Times: one}), bound(2*one, api.Weight{Signal: 1, Times: one}, api.Weight{Signal: 2, Times: 3}))
	for i, a := range l {
		l[i].Terms = append(make([]api.Weight, 0, 7), a.Terms...)
	}
	return l
}

// spareIsZero tells whether the room that roomyAtoms left is as it was.
func spareIsZero(l []api.Atom) bool {
	for _, a := range l[len(l):cap(l)] {
		if a.Num != 0 || a.Terms != nil {
			return false
		}
	}
	for _, a := range l {
		for _, w := range a.Terms[len(a.Terms):cap(a.Terms)] {
			if w != (api.Weight{}) {
				return false
			}
		}
	}
	return true
}

func spoilAtoms(l []api.Atom) {
	for _, a := range l {
		for i := range a.Terms[:cap(a.Terms)] {
			a.Terms[:cap(a.Terms)][i] = api.Weight{Signal: -7, Times: -7}
		}
	}
	for i := range l[:cap(l)] {
		l[:cap(l)][i] = api.Atom{Num: -7}
	}
}

func spoilCodes(l []api.Code) {
	for i := range l[:cap(l)] {
		l[:cap(l)][i] = api.Code{Do: -7}
	}
}

func roomyFormula(t *testing.T) []api.Node {
	t.Helper()
	n := formula(t, "a <= 1 or prev (c - b <= 2) or b + 2*c <= 2")
	n = append(make([]api.Node, 0, 9), n...)
	for i, part := range n {
		n[i].Terms = append(make([]api.Term, 0, 9), part.Terms...)
	}
	return n
}

// P1002: what is handed in stays as it was and is not kept; what is told has lists of its own, each time.
func TestOneHasListsOfItsOwn(t *testing.T) {
	s := sheetOf(t, api.Limits{})
	n, ahead := roomyFormula(t), roomyAtoms()
	codes, atoms, _, _ := gen.One(s, n, 0, ahead)
	wantCodes := slices.Clone(codes)
	want := append(roomyAtoms(), bound(2*one, api.Weight{Signal: 2, Times: one}, api.Weight{Signal: 1, Times: -one}), bound(2*one, api.Weight{Signal: 1, Times: one}, api.Weight{Signal: 2, Times: 2 * one}))
	if !sameAtoms(ahead, roomyAtoms()) || !spareIsZero(ahead) || !tree.Same(n, roomyFormula(t)) {
		t.Errorf("One changed what was handed in: %v, %v", n, ahead)
	}
	for _, part := range n {
		for _, x := range part.Terms[len(part.Terms):cap(part.Terms)] {
			if x != (api.Term{}) {
				t.Errorf("One changed spare room: %v", x)
			}
		}
	}
	spoilAtoms(ahead)
	for _, part := range n {
		clear(part.Terms[:cap(part.Terms)])
	}
	clear(n[:cap(n)])
	if !sameAtoms(atoms, want) {
		t.Errorf("One kept what was handed in: %v", atoms)
	}
	again, more, _, _ := gen.One(s, roomyFormula(t), 0, atoms)
	last, least, _, _ := gen.One(s, roomyFormula(t), 0, atoms)
	spoilAtoms(atoms)
	spoilCodes(codes)
	spoilAtoms(least)
	spoilCodes(last)
	if !sameAtoms(more, want) || !slices.Equal(again, wantCodes) {
		t.Errorf("One's lists are not its own: %v, %v", more, again)
	}
}

// P1002: the lists of one answer have no room in common.
func TestListsOfOneAnswer(t *testing.T) {
	_, atoms, _, _ := gen.One(sheetOf(t, api.Limits{}), roomyFormula(t), 0, roomyAtoms())
	for i := range atoms {
		_ = append(atoms[i].Terms, api.Weight{Signal: -7})
	}
	want, _, _, _ := gen.One(sheetOf(t, api.Limits{}), roomyFormula(t), 0, roomyAtoms())
	got, _, _, _ := gen.One(sheetOf(t, api.Limits{}), roomyFormula(t), 0, atoms)
	if !slices.Equal(got, want) {
		t.Errorf("an atom's terms have room with another's: %v", atoms)
	}
}

// P1002: of a formula that Norm tells.
func TestOneOfNorms(t *testing.T) {
	s := sheetOf(t, api.Limits{})
	n, e := core.Norm(formula(t, "hist[0, 2] a <= 1 and b <= 2"))
	if e != api.OK {
		t.Fatal(e)
	}
	oneTells(t, s, n, 0, nil, []api.Code{{Do: 0}, {Do: 2}, {Do: 3}, {Do: 7, To: 2}, {Do: 2, A: 1}, {Do: 3}, {Do: 5, A: 2}, {Do: 3}}, []api.Atom{bound(one, api.Weight{Times: one}), bound(2*one, api.Weight{Signal: 1, Times: one})}, 3)
}
