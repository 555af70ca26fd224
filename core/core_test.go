package core_test

import (
	"strconv"
	"strings"
	"testing"

	"picket/api"
	"picket/core"
	"picket/tree"
)

func checkNorm(t *testing.T, n, want []api.Node, wantE api.Errno) {
	t.Helper()
	got, e := core.Norm(n)
	if e != wantE || !equal(got, want) {
		t.Errorf("Norm(%v): %v, %d, not %v, %d", n, got, e, want, wantE)
	}
	if e == api.OK && !core.IsCore(got) {
		t.Errorf("Norm(%v): %v is no core", n, got)
	}
}

// P802
func TestNorm(t *testing.T) {
	for text, want := range map[string]string{
		"true": "true", "false": "false", "a <= 1": "a <= 1", "2*a - b <= - 1.5": "2*a - b <= - 1.5",
		"not a <= 1": "not a <= 1", "not not a <= 1": "a <= 1", "not true": "false", "not not true": "true",
		"a <= 1 or b <= 1": "a <= 1 or b <= 1", "a <= 1 or false": "a <= 1", "(a <= 1 or b <= 1) or (c <= 1 or a <= 1)": "a <= 1 or b <= 1 or c <= 1", "a <= 1 or true or b <= 1": "true", "a <= 1 or not a <= 1": "true",
		"a <= 1 and b <= 1": "not (not a <= 1 or not b <= 1)", "a <= 1 and true": "a <= 1", "a <= 1 and not a <= 1": "false", "a <= 1 and (b <= 1 and not c <= 1)": "not (not a <= 1 or not b <= 1 or c <= 1)", "a <= 1 and a <= 1": "a <= 1", "a <= 1 and false": "false",
		"a <= 1 => b <= 1": "not a <= 1 or b <= 1", "not a <= 1 => b <= 1": "a <= 1 or b <= 1", "a <= 1 => a <= 1": "true", "a <= 1 => b <= 1 => c <= 1": "not a <= 1 or not b <= 1 or c <= 1", "(a <= 1 => b <= 1) => c <= 1": "not (not a <= 1 or b <= 1) or c <= 1", "true => a <= 1": "a <= 1", "false => a <= 1": "true", "a <= 1 => false": "not a <= 1",
		"prev a <= 1": "prev a <= 1", "prev true": "prev true", "prev false": "false", "prev prev (false and a <= 1)": "false", "prev not prev false": "prev true",
		"once a <= 1": "true since a <= 1", "once[2, 5] a <= 1": "true since[2, 5] a <= 1", "once[0, 0] a <= 1": "a <= 1", "once[1, 1] a <= 1": "true since[1, 1] a <= 1", "once[3, inf] a <= 1": "true since[3, inf] a <= 1", "once false": "false", "once true": "true since true",
		"hist a <= 1": "not (true since not a <= 1)", "hist[0, 2] a <= 1": "not (true since[0, 2] not a <= 1)", "hist[0, 0] a <= 1": "a <= 1", "hist not a <= 1": "not (true since a <= 1)", "hist[7, inf] true": "true", "hist[1, 7] false": "not (true since[1, 7] true)", "not hist[1, 2] a <= 1": "true since[1, 2] not a <= 1",
		"a <= 1 since b <= 1": "a <= 1 since b <= 1", "a <= 1 since[2, 3] b <= 1": "a <= 1 since[2, 3] b <= 1", "a <= 1 since[0, 0] b <= 1": "b <= 1", "false since b <= 1": "b <= 1", "false since[1, 5] b <= 1": "false", "a <= 1 since false": "false", "true since[2, inf] (a <= 1 and b <= 1)": "true since[2, inf] not (not a <= 1 or not b <= 1)",
		"(a <= 1 and prev false) or hist (b <= 1 => c <= 1)": "not (true since not (not b <= 1 or c <= 1))", "(a <= 1 or once[0, 0] b <= 1) and not (false or a <= 1)": "not (not (a <= 1 or b <= 1) or a <= 1)",

		"once[1000, 1000] a <= 1": "true since[1000, 1000] a <= 1", "hist[0, 1000] a <= 1": "not (true since[0, 1000] not a <= 1)", "a <= 1 since[1000, inf] b <= 1": "a <= 1 since[1000, inf] b <= 1",
	} {
		checkNorm(t, formula(t, text), formula(t, want), api.OK)
	}
}

// P802
func TestNormOfWhatIsNoTree(t *testing.T) {
	for _, n := range odd() {
		if !tree.Valid(n) {
			checkNorm(t, n, nil, api.ErrText)
		}
	}
	deep := formula(t, "a <= 1")
	for range 23 {
		deep = core.Prev(deep)
	}
	checkNorm(t, deep, deep, api.OK)
	checkNorm(t, core.Prev(deep), nil, api.ErrText)
	wide := of(api.OpOr, atoms(299)...)
	checkNorm(t, wide, wide, api.OK)
	checkNorm(t, of(api.OpOr, atoms(300)...), nil, api.ErrText)
	never := timed(api.OpOnce, 3, 2, formula(t, "a <= 1"))
	checkNorm(t, append(never, api.Node{}), nil, api.ErrText)
	checkNorm(t, append([]api.Node{{Op: api.OpAnd, N: 3}}, append(never, never...)...), nil, api.ErrText)
}

// atoms are so many, each another one.
func atoms(n int) [][]api.Node {
	var l [][]api.Node
	for i := range n {
		l = append(l, []api.Node{{Op: api.OpAtom, Num: i, Terms: []api.Term{{Name: "a", Times: 1}}}})
	}
	return l
}

// P802
func TestNormOfIntervals(t *testing.T) {
	for _, text := range []string{
		"once[1, 0] a <= 1", "hist[5, 4] a <= 1", "true since[1000, 999] true", "once[0, 1001] true", "hist[1001, inf] true", "true since[1001, 1001] true", "once[2147483647, inf] true", "once[0, 2147483647] true",
		"false and once[1, 0] true", "a <= 1 or not prev hist (true => true since[3, 2] true)", "true or once[0, 1001] true", "false since[1, 1001] false", "once[2, 1] hist[0, 2] a <= 1",
	} {
		checkNorm(t, formula(t, text), nil, api.ErrRange)
	}
}

// P802: the core is as long as it may be, and longer.
func TestNormOfLongFormulas(t *testing.T) {
	// A part hist[1, k] of an atom has 2 parts, its core 5.
	long := func(hists, singles int) []api.Node {
		l := atoms(singles)
		for i := range hists {
			l = append(l, timed(api.OpHist, 1, i+1, formula(t, "b <= 1")))
		}
		return of(api.OpOr, l...)
	}
	for _, x := range []struct{ hists, singles, size int }{{119, 3, 599}, {119, 4, 600}, {118, 9, 600}, {0, 299, 300}} {
		n, e := core.Norm(long(x.hists, x.singles))
		if e != api.OK || len(n) != x.size {
			t.Errorf("Norm of %d hists and %d atoms: %d parts, %d", x.hists, x.singles, len(n), e)
		}
	}
	for _, x := range [][2]int{{119, 5}, {120, 0}, {149, 1}} {
		checkNorm(t, long(x[0], x[1]), nil, api.ErrLong)
	}
	checkNorm(t, core.Not(long(119, 4)), nil, api.ErrLong)
	never := long(125, 4)
	never[len(never)-2].To = 0
	checkNorm(t, never, nil, api.ErrRange)
	// What was long on the way is looked at behind all.
	checkNorm(t, of(api.OpOr, long(140, 1), formula(t, "true")), formula(t, "true"), api.OK)
	checkNorm(t, of(api.OpAnd, long(140, 1), formula(t, "false")), formula(t, "false"), api.OK)
	checkNorm(t, of(api.OpPrev, of(api.OpAnd, formula(t, "false"), long(140, 1))), formula(t, "false"), api.OK)
}

// P801
func TestIsCore(t *testing.T) {
	for _, text := range []string{
		"true", "false", "a <= 1", "2*a - b <= -1.5", "not a <= 1", "not not true", "prev false", "a <= 1 or b <= 1", "a <= 1 or a <= 1 or true", "(a <= 1 or b <= 1) or c <= 1",
		"a <= 1 since b <= 1", "false since[0, 0] false", "a <= 1 since[3, 3] b <= 1", "a <= 1 since[3, inf] b <= 1", "true since[0, 2147483647] not prev (a <= 1 or true)", "true since[2147483647, 2147483647] true", "true since[2147483647, inf] true",
	} {
		if !core.IsCore(formula(t, text)) {
			t.Errorf("IsCore(%s) is false", text)
		}
	}
	for _, text := range []string{
		"a <= 1 and b <= 1", "true => true", "once a <= 1", "hist a <= 1", "not (true and true)", "true or once true", "prev hist[0, 0] true", "true since (true => true)",
		"true since[3, 2] true", "true since[1, 0] true", "true since[2147483647, 2147483646] true", "not prev (true or true since[3, 2] true)",
	} {
		if core.IsCore(formula(t, text)) {
			t.Errorf("IsCore(%s) is true", text)
		}
	}
	for _, n := range odd() {
		if core.IsCore(n) {
			t.Errorf("IsCore(%v) is true", n)
		}
	}
}

// P801: each part has the fields of its Op, and no others.
func TestIsCoreLooksAtFields(t *testing.T) {
	checkField := func(n []api.Node, at int, change func(*api.Node)) {
		t.Helper()
		if !core.IsCore(n) {
			t.Fatalf("IsCore(%v) is false", n)
		}
		m := tree.Join(n)
		change(&m[at])
		if core.IsCore(m) {
			t.Errorf("IsCore(%v) is true", m)
		}
	}
	for _, text := range []string{"true", "a <= 1", "prev false", "not (true or a <= 1)", "a <= 1 or b <= 1", "a <= 1 since b <= 1"} {
		n := formula(t, text)
		for i, part := range n {
			checkField(n, i, func(x *api.Node) { x.N++ })
			checkField(n, i, func(x *api.Node) { x.N-- })
			checkField(n, i, func(x *api.Node) { x.N = minInt })
			checkField(n, i, func(x *api.Node) { x.N = maxInt })
			checkField(n, i, func(x *api.Node) { x.From = -1 })
			checkField(n, i, func(x *api.Node) { x.To = -2 })
			checkField(n, i, func(x *api.Node) { x.From = 1 << 31 })
			checkField(n, i, func(x *api.Node) { x.To = 1 << 31 })
			if part.Op != api.OpSince {
				checkField(n, i, func(x *api.Node) { x.From = 1 })
				checkField(n, i, func(x *api.Node) { x.To = 1 })
				checkField(n, i, func(x *api.Node) { x.To = forever })
			}
			if part.Op != api.OpAtom {
				checkField(n, i, func(x *api.Node) { x.Num = 1 })
				checkField(n, i, func(x *api.Node) { x.Terms = []api.Term{{Name: "a", Times: api.One}} })
				continue
			}
			checkField(n, i, func(x *api.Node) { x.Terms = nil })
			checkField(n, i, func(x *api.Node) { x.Terms = make([]api.Term, 1) })
			checkField(n, i, func(x *api.Node) { x.Terms = []api.Term{{Name: "prev", Times: api.One}} })
			checkField(n, i, func(x *api.Node) { x.Terms = []api.Term{{Name: "1a", Times: api.One}} })
			checkField(n, i, func(x *api.Node) { x.Terms = []api.Term{{Name: strings.Repeat("a", 25), Times: api.One}} })
			checkField(n, i, func(x *api.Node) { x.Terms = []api.Term{{Name: "a", Times: minInt}} })
			checkField(n, i, func(x *api.Node) { x.Num = minInt })
			checkField(n, i, func(x *api.Node) {
				for len(x.Terms) < 17 {
					x.Terms = append(x.Terms, api.Term{Name: "a"})
				}
			})
		}
	}
}

// P801: how many parts there are and how deep is not asked.
func TestIsCoreOfGreatFormulas(t *testing.T) {
	const deep = 1 << 16
	n := make([]api.Node, deep+1)
	for i := range deep {
		n[i] = api.Node{Op: []int{api.OpNot, api.OpPrev}[i%2], N: 1}
	}
	wide := of(api.OpOr, atoms(deep)...)
	nested := make([]api.Node, 0, 3*deep)
	for range deep {
		nested = append(nested, api.Node{Op: api.OpSince, N: 2, To: forever}, api.Node{Op: api.OpTrue})
	}
	nested = append(nested, api.Node{Op: api.OpFalse})
	for i, x := range [][]api.Node{n, wide, nested, of(api.OpSince, wide, nested)} {
		if !core.IsCore(x) {
			t.Errorf("IsCore of great formula %d is false", i)
		}
		if core.IsCore(x[:len(x)-1]) || core.IsCore(append(x[:len(x):len(x)], api.Node{})) || core.IsCore(x[1:]) != (x[0].N == 1) {
			t.Errorf("IsCore of great formula %d with a part less or more is true", i)
		}
		for _, made := range [][]api.Node{core.Not(x), core.Prev(x), core.Or(x, formula(t, "b <= 1")), core.And(formula(t, "b <= 1"), x), core.Since(0, 1, x, x)} {
			if !core.IsCore(made) {
				t.Errorf("what is made of great formula %d is no core", i)
			}
		}
		if !equal(core.Not(core.Not(x)), x) || !equal(core.Or(x, x), x) || !equal(core.And(x, x), x) || !equal(core.Since(0, 0, x, x), x) {
			t.Errorf("what is made of great formula %d is another one", i)
		}
	}
}

// P802
func TestNormOfManyParts(t *testing.T) {
	var b strings.Builder
	for i := range 99 {
		b.WriteString("once[1, " + strconv.Itoa(i+1) + "] a <= 1 and ")
	}
	n, e := core.Norm(formula(t, b.String()+"b <= 1"))
	if e != api.OK || len(n) != 2+4*99+2 {
		t.Errorf("Norm of an and of 99 onces: %d parts, %d", len(n), e)
	}
}
