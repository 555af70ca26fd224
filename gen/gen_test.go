package gen_test

import (
	"slices"
	"strconv"
	"strings"
	"testing"

	"picket/api"
	"picket/core"
	"picket/gen"
	"picket/kinds"
	"picket/trace"
	"picket/tree"
)

func sameProgram(a, b api.Program) bool {
	return a.Layout == b.Layout && sameAtoms(a.Atoms, b.Atoms) && slices.Equal(a.Codes, b.Codes) && slices.Equal(a.Props, b.Props)
}

func genTells(t *testing.T, s *kinds.Sheet, want api.Program) {
	t.Helper()
	p, e, whose := gen.Gen(s)
	if e != api.OK || whose != "" || !sameProgram(p, want) {
		t.Errorf("Gen: %v, %d, %q, not %v", p, e, whose, want)
	}
}

func genFails(t *testing.T, s *kinds.Sheet, want api.Errno, name string) {
	t.Helper()
	p, e, whose := gen.Gen(s)
	if e != want || whose != name || !sameProgram(p, api.Program{}) {
		t.Errorf("Gen: %d instructions, %d, %q, not %d, %q", len(p.Codes), e, whose, want, name)
	}
}

// P1003
func TestGen(t *testing.T) {
	a, b := bound(one, api.Weight{Times: one}), bound(2*one, api.Weight{Signal: 1, Times: one})
	genTells(t, sheetOf(t, api.Limits{}, prop(t, "p", "a <= 1 or prev b <= 2")), api.Program{
		Layout: api.Layout{Cells: 1, Stack: 2, Signals: 3}, Atoms: []api.Atom{a, b}, Props: []string{"p"},
		Codes: []api.Code{{Do: 2}, {Do: 2, A: 1}, {Do: 6}, {Do: 5, A: 2}, {Do: 8}},
	})
	// Properties that share atoms; cells go on behind those ahead.
	genTells(t, sheetOf(t, api.Limits{Cells: 100, Steps: 100}, prop(t, "p", "prev b <= 2"), prop(t, "q", "hist[0, 2] a <= 1"), prop(t, "r", "true"), prop(t, "s", "b <= 2 since[3, inf] prev a <= 1"), prop(t, "true", "b <= 2 and b <= 2")), api.Program{
		Layout: api.Layout{Cells: 9, Stack: 2, Signals: 3}, Atoms: []api.Atom{b, a}, Props: []string{"p", "q", "r", "s", "true"},
		Codes: []api.Code{
			{Do: 2}, {Do: 6}, {Do: 8},
			{Do: 0}, {Do: 2, A: 1}, {Do: 3}, {Do: 7, A: 1, To: 2}, {Do: 3}, {Do: 8, A: 1},
			{Do: 0}, {Do: 8, A: 2},
			{Do: 2}, {Do: 2, A: 1}, {Do: 6, A: 4}, {Do: 7, A: 5, From: 3, To: forever}, {Do: 8, A: 3},
			{Do: 2}, {Do: 8, A: 4},
		},
	})
	// Each property's core, not its formula: what says nothing takes nothing.
	genTells(t, sheetOf(t, api.Limits{}, prop(t, "p", "once[0, 999] (a <= 1 and false) or prev not true")), api.Program{
		Layout: api.Layout{Stack: 1, Signals: 3}, Props: []string{"p"}, Codes: []api.Code{{Do: 1}, {Do: 8}},
	})
}

// P1003: no sheet, a sheet of nothing, no properties.
func TestGenOfNothing(t *testing.T) {
	genFails(t, nil, api.ErrArg, "")
	genTells(t, &kinds.Sheet{}, api.Program{})
	genTells(t, sheetOf(t, api.Limits{}), api.Program{Layout: api.Layout{Signals: 3}})
	genTells(t, sheetOf(t, api.Limits{Cells: 1, Steps: 1}), api.Program{Layout: api.Layout{Signals: 3}})
	genTells(t, sheetOf(t, api.Limits{Cells: -1, Steps: -1}), api.Program{Layout: api.Layout{Signals: 3}})
	empty, _, _ := kinds.New(api.Spec{})
	genTells(t, empty, api.Program{})
	only, _, _ := kinds.New(api.Spec{Props: []api.Prop{prop(t, "p", "prev true")}})
	genTells(t, only, api.Program{Layout: api.Layout{Cells: 1, Stack: 1}, Props: []string{"p"}, Codes: []api.Code{{Do: 0}, {Do: 6}, {Do: 8}}})
}

// P1003: a sheet whose names somebody took away knows no signal.
func TestGenOfASheetWithoutNames(t *testing.T) {
	s := sheetOf(t, api.Limits{}, prop(t, "p", "true"), prop(t, "q", "a <= 1"))
	s.Names = nil
	genFails(t, s, api.ErrName, "q")
}

// anyOf tells a property of so many atoms, none of which is another's: so many instructions, and two.
func anyOf(name string, count int) api.Prop {
	n := []api.Node{{Op: api.OpOr, N: count}}
	for i := range count {
		n = append(n, api.Node{Op: api.OpAtom, Num: i, Terms: []api.Term{{Name: "a", Times: one}}})
	}
	return api.Prop{Name: name, Body: n}
}

// hists tells a property of which the core has 5 parts for each of so many, one for each of more atoms, and one.
func hists(t *testing.T, name string, count, more int) api.Prop {
	t.Helper()
	var l []string
	for i := range count {
		l = append(l, "hist[0, "+strconv.Itoa(i+1)+"] a <= 1")
	}
	for i := range more {
		l = append(l, "b <= "+strconv.Itoa(i))
	}
	return prop(t, name, strings.Join(l, " or "))
}

// P1003: a core of as many parts as there may be, and of more.
func TestGenOfLongCores(t *testing.T) {
	p, e, whose := gen.Gen(sheetOf(t, api.Limits{}, hists(t, "p", 119, 4)))
	if len(p.Codes) != 601 || e != api.OK || whose != "" {
		t.Errorf("Gen: %d instructions, %d, %q", len(p.Codes), e, whose)
	}
	fine, long := prop(t, "p", "a <= 1"), hists(t, "q", 119, 5)
	genFails(t, sheetOf(t, api.Limits{}, long), api.ErrLong, "q")
	genFails(t, sheetOf(t, api.Limits{}, fine, long, prop(t, "r", "true")), api.ErrLong, "q")
	genFails(t, sheetOf(t, api.Limits{}, fine, long, hists(t, "r", 130, 0)), api.ErrLong, "q")
	// Which of several errors: property by property, and of one its core's error first.
	genFails(t, sheetOf(t, api.Limits{Steps: 2}, fine, long), api.ErrLong, "q")
	genFails(t, sheetOf(t, api.Limits{Steps: 1}, fine, long), api.ErrLimit, "p")
	genFails(t, sheetOf(t, api.Limits{Steps: 1}, long, fine), api.ErrLong, "q")
}

// P1003: as many instructions as there may be, and one more.
func TestGenOfManySteps(t *testing.T) {
	var l []api.Prop
	for i := range 6 {
		l = append(l, anyOf("p"+strconv.Itoa(i), 299))
	}
	for count, want := range map[int]int{191: 1999, 192: 2000} {
		p, e, whose := gen.Gen(sheetOf(t, api.Limits{}, append(l, anyOf("q", count))...))
		if len(p.Codes) != want || len(p.Atoms) != 299 || len(p.Props) != 7 || p.Stack != 299 || e != api.OK || whose != "" {
			t.Errorf("Gen: %d instructions, %d atoms, %v, %d, %q", len(p.Codes), len(p.Atoms), p.Layout, e, whose)
		}
	}
	for _, limits := range []api.Limits{{}, {Steps: 2000}, {Steps: 2001}, {Steps: 9999, Cells: 9999}} {
		genFails(t, sheetOf(t, limits, append(l, anyOf("q", 193))...), api.ErrLimit, "q")
		genFails(t, sheetOf(t, limits, append(l, anyOf("q", 192), prop(t, "r", "true"))...), api.ErrLimit, "r")
		genFails(t, sheetOf(t, limits, append(l, anyOf("q", 191), prop(t, "r", "true"), prop(t, "s", "true"))...), api.ErrLimit, "r")
		genFails(t, sheetOf(t, limits, append([]api.Prop{anyOf("q", 193)}, l...)...), api.ErrLimit, "p5")
	}
}

// onces tells a property of so many windows of 1,000 cells each, none of which is another's.
func onces(t *testing.T, name string, count int, more string) api.Prop {
	t.Helper()
	var l []string
	for i := range count {
		l = append(l, "once[0, 999] a <= "+strconv.Itoa(i))
	}
	return prop(t, name, strings.Join(append(l, more), " or "))
}

// P1003: as many cells as there may be, and one more.
func TestGenOfManyCells(t *testing.T) {
	for more, want := range map[string]int{"once[0, 998] b <= 1": 19999, "once[0, 999] b <= 1": 20000, "once[999, 999] b <= 1": 20000, "once[999, inf] b <= 1": 20000, "prev b <= 1": 19001} {
		p, e, whose := gen.Gen(sheetOf(t, api.Limits{}, onces(t, "p", 19, more)))
		if p.Cells != want || e != api.OK || whose != "" {
			t.Errorf("Gen: %v, %d, %q", p.Layout, e, whose)
		}
	}
	for _, limits := range []api.Limits{{}, {Cells: 20000}, {Cells: 20001}, {Steps: 9999, Cells: 99999}} {
		for _, more := range []string{"once[0, 1000] b <= 1", "once[1000, 1000] b <= 1", "once[1000, inf] b <= 1", "prev once[0, 999] b <= 1", "once[0, 999] prev b <= 1"} {
			genFails(t, sheetOf(t, limits, onces(t, "p", 19, more)), api.ErrLimit, "p")
			genFails(t, sheetOf(t, limits, prop(t, "o", "true"), onces(t, "p", 19, more), prop(t, "q", "true")), api.ErrLimit, "p")
		}
		genFails(t, sheetOf(t, limits, onces(t, "p", 20, "true since b <= 1")), api.ErrLimit, "p")
		genFails(t, sheetOf(t, limits, onces(t, "p", 20, "false"), prop(t, "q", "true"), prop(t, "r", "prev true"), prop(t, "s", "prev true")), api.ErrLimit, "r")
	}
}

// P1003: as many as the specification says, and one more; those that it does not say.
func TestGenOfLimits(t *testing.T) {
	l := []api.Prop{prop(t, "p", "true"), prop(t, "q", "once[0, 3] a <= 1"), prop(t, "r", "prev prev true")} // 2, 4, 4 instructions; 0, 4, 2 cells
	fits := func(cells, steps int) {
		t.Helper()
		p, e, whose := gen.Gen(sheetOf(t, api.Limits{Cells: cells, Steps: steps}, l...))
		if len(p.Codes) != 10 || p.Cells != 6 || e != api.OK || whose != "" {
			t.Errorf("Gen: %d instructions, %v, %d, %q", len(p.Codes), p.Layout, e, whose)
		}
	}
	fits(0, 0)
	fits(6, 0)
	fits(0, 10)
	fits(6, 10)
	fits(7, 11)
	fits(top, top)
	for limits, name := range map[api.Limits]string{
		{Cells: 5}: "r", {Cells: 4}: "r", {Cells: 3}: "q", {Cells: 1}: "q", {Cells: -1}: "p", {Cells: low}: "p",
		{Steps: 9}: "r", {Steps: 6}: "r", {Steps: 5}: "q", {Steps: 2}: "q", {Steps: 1}: "p", {Steps: -1}: "p", {Steps: low}: "p",
		{Cells: 5, Steps: 10}: "r", {Cells: 6, Steps: 9}: "r", {Cells: 3, Steps: 9}: "q", {Cells: 5, Steps: 5}: "q", {Cells: 1, Steps: 1}: "p", {Cells: 99, Steps: 1}: "p", {Cells: 3, Steps: 99}: "q",
	} {
		genFails(t, sheetOf(t, limits, l...), api.ErrLimit, name)
	}
}

// someSheet tells a sheet of strewn properties, and their cores.
func someSheet(t *testing.T, next func(int) int) (*kinds.Sheet, [][]api.Node) {
	t.Helper()
	var l []api.Prop
	var cores [][]api.Node
	for i := range 1 + next(4) {
		n := someThing(next, next(4)).list()
		made, e := core.Norm(n)
		if e != api.OK {
			t.Fatalf("Norm(%v): %d", n, e)
		}
		l = append(l, api.Prop{Name: "p" + strconv.Itoa(i), Body: n})
		cores = append(cores, made)
	}
	return sheetOf(t, api.Limits{}, l...), cores
}

// P1003, P1004: strewn specifications, held against the chapter's words.
func TestGenOfStrewnSpecifications(t *testing.T) {
	next := strewn(4)
	for range 3000 {
		s, cores := someSheet(t, next)
		m := model{names: []string{"a", "b", "c"}}
		want := api.Program{}
		for i, n := range cores {
			x, _ := read(n)
			ahead := len(m.codes)
			m.put(x)
			m.codes = append(m.codes, do(api.DoTell, i))
			if len(m.codes)-ahead != len(n)+1 {
				t.Errorf("%v: %d instructions", n, len(m.codes)-ahead)
			}
			want.Props = append(want.Props, "p"+strconv.Itoa(i))
		}
		want.Atoms, want.Codes = m.atoms, m.codes
		want.Layout = api.Layout{Cells: m.cell, Stack: stackByHand(m.codes), Signals: 3}
		genTells(t, s, want)
	}
}

// P1004: a property's instructions and cells hang on its formula alone.
func TestGenOfOneAndOfSeveral(t *testing.T) {
	next := strewn(5)
	for range 1000 {
		s, _ := someSheet(t, next)
		all, e, _ := gen.Gen(s)
		if e != api.OK {
			t.Fatal(e)
		}
		codes, cells := 0, 0
		for _, p := range s.Spec().Props {
			alone, _, _ := gen.Gen(sheetOf(t, api.Limits{}, p))
			codes += len(alone.Codes)
			cells += alone.Cells
		}
		if len(all.Codes) != codes || all.Cells != cells {
			t.Errorf("%d instructions and %d cells, not %d and %d", len(all.Codes), all.Cells, codes, cells)
		}
	}
}

// columns tells what each property of a program tells at each row, by the chapters' words on instructions: values stand for whole lists of rows.
func columns(p api.Program, rows [][]api.Fix) [][]bool {
	var stack [][]bool
	told := make([][]bool, len(p.Props))
	take := func() []bool {
		last := stack[len(stack)-1]
		stack = stack[:len(stack)-1]
		return last
	}
	for _, c := range p.Codes {
		made := make([]bool, len(rows))
		switch c.Do {
		case api.DoTrue, api.DoFalse, api.DoAtom:
			for k := range made {
				made[k] = c.Do == api.DoTrue
				if c.Do == api.DoAtom {
					made[k], _ = trace.Judge(p.Atoms[c.A], rows[k]...)
				}
			}
		case api.DoNot:
			for k, v := range take() {
				made[k] = !v
			}
		case api.DoOr:
			for range c.A {
				for k, v := range take() {
					made[k] = made[k] || v
				}
			}
		case api.DoPrev:
			copy(made[min(1, len(rows)):], take())
		case api.DoSince:
			q, p := take(), take()
			for k := range made {
				made[k] = heldSince(p, q, c, k)
			}
		case api.DoTell:
			told[c.A] = take()
			continue
		}
		stack = append(stack, made)
	}
	return told
}

// heldSince tells whether q held within the distances, and p ever since.
func heldSince(p, q []bool, c api.Code, k int) bool {
	for d := range k + 1 {
		if d >= c.From && (c.To == forever || d <= c.To) && q[k-d] {
			return true
		}
		if !p[k-d] {
			return false
		}
	}
	return false
}

// P1002, P1003: what the instructions tell is what the formulas mean.
func TestMeaningOfPrograms(t *testing.T) {
	next := strewn(6)
	held := [2]int{}
	for range 1500 {
		s, cores := someSheet(t, next)
		var rows [][]api.Fix
		for range next(12) {
			rows = append(rows, []api.Fix{next(4) * one, next(4) * one, next(4) * one / 2})
		}
		p, e, _ := gen.Gen(s)
		if e != api.OK {
			t.Fatal(e)
		}
		told := columns(p, rows)
		for i, n := range cores {
			want, _ := trace.All(n, []string{"a", "b", "c"}, rows)
			for k, v := range want {
				held[v]++
				if told[i][k] != (v == api.True) {
					t.Errorf("%v at %d: %v, not %d", n, k, told[i][k], v)
				}
			}
		}
	}
	if held[0] < 1000 || held[1] < 1000 {
		t.Errorf("verdicts: %d", held)
	}
}

// P1003: a program has lists of its own, each time, and a sheet stays as it was.
func TestGenHasListsOfItsOwn(t *testing.T) {
	s := sheetOf(t, api.Limits{}, prop(t, "p", "a + b <= 1 or prev b <= 2"), prop(t, "q", "once[0, 3] a + b <= 1"))
	spec := s.Spec()
	p, _, _ := gen.Gen(s)
	q, _, _ := gen.Gen(s)
	spoilAtoms(p.Atoms)
	spoilCodes(p.Codes)
	for i := range p.Props[:cap(p.Props)] {
		p.Props[:cap(p.Props)][i] = "spoilt"
	}
	again, _, _ := gen.Gen(s)
	if !sameProgram(q, again) || len(again.Codes) != 9 || len(again.Atoms) != 2 || again.Props[0] != "p" {
		t.Errorf("a program's lists are not its own: %v, %v", q, again)
	}
	behind := s.Spec()
	if len(behind.Props) != 2 || !tree.Same(behind.Props[0].Body, spec.Props[0].Body) || !tree.Same(behind.Props[1].Body, spec.Props[1].Body) || !slices.Equal(behind.Signals, spec.Signals) {
		t.Errorf("Gen changed its sheet: %v", behind)
	}
}
