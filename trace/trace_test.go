package trace_test

import (
	"fmt"
	"math"
	"slices"
	"strings"
	"testing"

	"picket/api"
	"picket/core"
	"picket/trace"
	"picket/tree"
)

func formula(t *testing.T, text string) []api.Node {
	t.Helper()
	n, e, _, _ := tree.Formula(text)
	if e != api.OK {
		t.Fatalf("Formula(%s): %d", text, e)
	}
	return n
}

// counted has so many rows; that of place k is a = k.
func counted(count int) run {
	r := run{names: []string{"a"}}
	for k := range count {
		r.rows = append(r.rows, []api.Fix{k * one})
	}
	return r
}

// verdicts tells the list that a text says: one byte for each of them.
func verdicts(text string) []int {
	var l []int
	for _, b := range []byte(text) {
		l = append(l, strings.IndexByte("-+!", b))
	}
	return l
}

// P902, P903: what each part means, at each of six places where a is 0, 1, 2, 3, 4, 5.
func TestMeaning(t *testing.T) {
	for text, want := range map[string]string{
		"true": "++++++", "false": "------", "a <= 2": "+++---", "a >= 2": "--++++", "- a <= - 2": "--++++", "z <= 0": "++++++", "z <= - 1": "------",
		"not a <= 2": "---+++", "not true": "------", "not false": "++++++",
		"a >= 1 and a <= 3": "-+++--", "a >= 1 and true and a <= 3": "-+++--", "true and false": "------", "a <= 3 and a >= 2 and a <= 2": "--+---",
		"a <= 0 or a >= 4": "+---++", "a <= 0 or a >= 5 or a >= 4": "+---++", "false or false": "------", "false or a <= 0 or false": "+-----",
		"a >= 2 => a >= 4": "++--++", "a <= 1 => a <= 0": "+-++++", "true => false": "------", "false => false": "++++++", "false => true": "++++++", "a >= 1 => a >= 2 => a >= 3": "++-+++", "(a >= 3 => a >= 4) => a >= 1": "-+++++",

		"prev true": "-+++++", "prev false": "------", "prev a <= 2": "-+++--", "prev prev true": "--++++", "prev not a <= 2": "----++", "not prev a <= 2": "+---++", "prev not prev true": "-+----", "not prev true": "+-----",

		"once a <= 0": "++++++", "once a >= 3": "---+++", "once false": "------", "once true": "++++++",
		"once[0, 0] a <= 2": "+++---", "once[1, 1] a <= 2": "-+++--", "once[0, 2] a <= 1": "++++--", "once[1, 2] a <= 1": "-+++--", "once[2, 2] a <= 0": "--+---", "once[2, 3] a <= 0": "--++--", "once[2, 9] a <= 0": "--++++", "once[3, inf] true": "---+++", "once[3, inf] a <= 1": "---+++", "once[3, inf] a >= 1": "----++", "once[5, 5] true": "-----+", "once[6, inf] true": "------", "once[1000, 1000] true": "------", "once[0, 1000] a >= 2": "--++++", "once[1, inf] a >= 2": "---+++",

		"hist a <= 2": "+++---", "hist a <= 9": "++++++", "hist a >= 1": "------", "hist true": "++++++", "hist false": "------",
		"hist[0, 0] a <= 2": "+++---", "hist[1, 1] a <= 2": "++++--", "hist[0, 2] a >= 1": "---+++", "hist[1, 2] a >= 1": "+--+++", "hist[2, 3] a >= 1": "++--++", "hist[2, inf] a <= 1": "++++--", "hist[2, inf] a >= 1": "++----", "hist[2, 2] false": "++----", "hist[3, inf] false": "+++---", "hist[5, 5] false": "+++++-", "hist[6, inf] false": "++++++", "hist[1000, 1000] false": "++++++", "hist[0, 1000] a <= 3": "++++--", "hist[1, 1000] a <= 3": "+++++-",

		"a <= 3 since a <= 0": "++++--", "a >= 1 since a <= 0": "++++++", "a >= 2 since a <= 0": "+-----", "a >= 2 since a <= 1": "++++++", "a >= 3 since a <= 1": "++----", "true since a >= 3": "---+++", "false since a <= 1": "++----", "true since true": "++++++", "true since false": "------", "false since true": "++++++",
		"a <= 3 since[1, inf] a <= 0": "-+++--", "a <= 4 since[1, 2] a <= 1": "-+++--", "a <= 2 since[1, 2] a <= 1": "-++---", "a >= 2 since[1, 3] a <= 1": "--+++-", "a >= 3 since[1, 3] a <= 2": "---+++", "a <= 9 since[3, 3] true": "---+++", "true since[3, 3] a <= 0": "---+--", "false since[1, inf] true": "------", "false since[0, 5] a <= 2": "+++---", "false since[0, 0] true": "++++++", "a <= 9 since[0, 0] a <= 2": "+++---", "a >= 1 since[2, inf] a <= 1": "--++++", "a >= 3 since[2, inf] a <= 1": "------", "true since[6, inf] true": "------", "true since[1000, 1000] true": "------", "true since[1000, inf] true": "------", "true since[0, 1000] a >= 4": "----++",

		"once[1, 1] hist[0, 1] a <= 2": "-+++--", "hist once[0, 1] a <= 2": "++++--", "prev (a <= 3 since[1, 2] prev true)": "---++-", "not once[0, 1] not (a >= 1 and a <= 3)": "--++--", "(a >= 2 since a <= 1) since[2, 2] (prev a <= 1)": "---++-", "a <= 1 since (a <= 0 or prev prev prev true)": "++-+++",
	} {
		r := counted(6)
		r.check(t, formula(t, text), verdicts(want))
		if model := r.model(formula(t, text)); !slices.Equal(model, verdicts(want)) {
			t.Errorf("%s: the model tells %d, not %s", text, model, want)
		}
	}
}

// P902, P903: the chapter's examples, and rows of none.
func TestExamples(t *testing.T) {
	for i, want := range map[int]int{3: api.True, 2: api.True, 0: api.False} {
		if v, e := trace.Holds(formula(t, "once[1, 2] a <= 1"), []string{"a"}, counted(4).rows, i); v != want || e != api.OK {
			t.Errorf("Holds at %d: %d, %d", i, v, e)
		}
	}
	counted(3).check(t, formula(t, "prev true"), verdicts("-++"))
	counted(3).check(t, formula(t, "hist[0, inf] a <= 1"), verdicts("++-"))
	for _, text := range []string{"true", "a <= 1", "prev true", "hist a <= 1 or false", "2*a <= 0 since[1, 2] true"} {
		counted(0).check(t, formula(t, text), nil)
		run{rows: [][]api.Fix{}}.check(t, formula(t, text), nil)
	}
}

// P902: rows that lack numbers, and rows with more.
func TestRowsOfAllLengths(t *testing.T) {
	r := run{[]string{"a", "b", "a"}, [][]api.Fix{nil, {one}, {one, one}, {0, one, one, one}, {-one, 2 * one, 3 * one}, {}}}
	r.check(t, formula(t, "a <= 0"), verdicts("+--+++"))
	r.check(t, formula(t, "b <= 0"), verdicts("++---+"))
	r.check(t, formula(t, "a + b + z <= 1"), verdicts("++-+++"))
	r.check(t, formula(t, "a + b + z >= 1"), verdicts("-++++-"))
	r.check(t, formula(t, "prev b >= 1"), verdicts("---+++"))
	r.check(t, formula(t, "a <= 0 since a >= 1"), verdicts("-+++++"))
	run{nil, r.rows}.check(t, formula(t, "a <= 0"), verdicts("++++++"))
}

// P902, P903: an atom that overflows, wherever it stands, from its place on.
func TestOverflow(t *testing.T) {
	r := run{[]string{"a", "b"}, [][]api.Fix{{0, 0}, {0, one}, {top, 0}, {0, 0}, {low, 0}, {0, top}, {0, 0}}}
	for text, want := range map[string]string{
		"a <= 0": "++-++++", "2*a <= 0": "++!!!!!", "- a <= 0": "++++!!!", "b <= 0": "+-+++-+", "a + b <= 0": "+--++-+", "- a - b <= 0": "++++!!!", "2*b <= 0": "+-+++!!", "a - b <= 0": "++-++++", "b - a <= 0": "+-++!!!", "2*z <= 0": "+++++++",
		"true or 2*a <= 0": "++!!!!!", "false and 2*a <= 0": "--!!!!!", "2*a <= 0 or true": "++!!!!!", "2*a <= 0 => true": "++!!!!!", "false => 2*a <= 0": "++!!!!!", "true => - a <= 0": "++++!!!",
		"prev 2*a <= 0": "-+!!!!!", "prev prev 2*b <= 0": "--+-+!!", "once[6, 6] 2*b <= 0": "-----!!", "once[1000, inf] 2*b <= 0": "-----!!", "hist[1000, 1000] 2*b <= 0": "+++++!!", "hist[0, 0] 2*b <= 0": "+-+++!!",
		"2*b <= 0 since true": "+++++!!", "true since[3, 3] 2*b <= 0": "---+-!!", "2*b <= 0 since false": "-----!!", "false since[1, 1] 2*b <= 0": "-----!!", "2*b <= 0 since[0, 0] true": "+++++!!",
		"not (true or (false and not prev 2*b <= 0))": "-----!!", "2*b <= 0 or 2*a <= 0": "++!!!!!", "2*a <= 0 or 2*b <= 0": "++!!!!!", "2*b <= 0 and - a <= 0": "+-++!!!", "- a <= 0 since 2*b <= 0": "++++!!!",
	} {
		r.check(t, formula(t, text), verdicts(want))
		if model := r.model(formula(t, text)); !slices.Equal(model, verdicts(want)) {
			t.Errorf("%s: the model tells %d, not %s", text, model, want)
		}
	}
}

// of puts parts into one.
func of(op int, l ...[]api.Node) []api.Node { return tree.Make(api.Node{Op: op}, l...) }

func timed(op, from, to int, l ...[]api.Node) []api.Node {
	return tree.Make(api.Node{Op: op, From: from, To: to}, l...)
}

// short tells the beginning of a list.
func short(n []api.Node) string {
	return fmt.Sprintf("%d parts, %v ..", len(n), n[:min(len(n), 9)])
}

// checkFault holds a list against the error that it has, whatever the rows and the place are.
func checkFault(t *testing.T, n []api.Node, want api.Errno) {
	t.Helper()
	for _, rows := range [][][]api.Fix{nil, {{0}}, {{top, top}, nil}} {
		if l, e := trace.All(n, []string{"a"}, rows); len(l) != 0 || e != want {
			t.Errorf("All(%s): %d, %d, not %d", short(n), l, e, want)
		}
		for _, i := range []int{-1, 0, 1, 2, math.MaxInt, math.MinInt} {
			if v, e := trace.Holds(n, []string{"a"}, rows, i); v != 0 || e != want {
				t.Errorf("Holds(%s, %d): %d, %d, not %d", short(n), i, v, e, want)
			}
		}
	}
}

// P902, P903: lists that are neither trees nor core formulas.
func TestFaults(t *testing.T) {
	a := formula(t, "a <= 1")
	never := timed(api.OpOnce, 3, 2, a)
	deep := of(api.OpOnce, a)
	for range 23 {
		deep = core.Prev(deep)
	}
	checkFault(t, deep, api.ErrText)
	for _, n := range [][]api.Node{
		nil, {}, {{Op: 99}}, {{Op: -1}}, {{Op: api.OpAtom}}, {{Op: api.OpTrue, N: 1}}, {{}, {}}, {{Op: api.OpNot}}, {{Op: api.OpNot, N: 1}}, {{Op: api.OpNot, N: -1}, {}}, {{Op: api.OpOr, N: 1}, {}}, {{Op: api.OpOr, N: math.MaxInt}, {}, {}}, {{Op: api.OpAnd, N: 3}, {}, {}},
		{{Num: 1}}, {{To: 1}}, {{Op: api.OpNot, N: 1, To: 1}, {}}, {{Op: api.OpSince, N: 2, From: -1}, {}, {}}, {{Op: api.OpOnce, N: 1, To: -2}, {}}, {{Op: api.OpAtom, Terms: []api.Term{{Name: "not", Times: 1}}}}, {{Op: api.OpAtom, Terms: []api.Term{{Name: "a", Times: low}}}},
		// No tree, for From may be above To there, and no core formula.
		of(api.OpPrev, timed(api.OpSince, 3, 2, a, a), a), append(slices.Clone(never), a...),
		// No tree, for its many parts, and no core formula.
		of(api.OpOr, slices.Repeat([][]api.Node{a}, 298)...)[:298], of(api.OpOr, append(slices.Repeat([][]api.Node{a}, 299), of(api.OpAnd, a, a))...),
	} {
		checkFault(t, n, api.ErrText)
	}
	for _, text := range []string{"once[1, 0] a <= 1", "hist[5, 4] a <= 1", "true since[1000, 999] true", "once[0, 1001] true", "hist[1001, inf] true", "true since[1001, 1001] true", "once[2147483647, inf] true", "prev (true or not once[0, 1001] false)", "true since[3, 2] once[1, 2] true"} {
		checkFault(t, formula(t, text), api.ErrRange)
	}
	// Core formulas, and no trees.
	for _, n := range [][]api.Node{timed(api.OpSince, 0, 1001, a, a), timed(api.OpSince, 1001, forever, a, a), timed(api.OpSince, 1001, 1<<31-1, a, a)} {
		for range 30 {
			n = core.Prev(n)
		}
		checkFault(t, n, api.ErrRange)
	}
}

// P902: ends that may just be.
func TestGreatestEnds(t *testing.T) {
	r := counted(1003)
	for text, want := range map[string][]int{"once[1000, 1000] a <= 0": {1000}, "once[1000, inf] a <= 0": {1000, 1001, 1002}, "true since[1000, 1000] a <= 1": {1000, 1001}, "true since[999, 1000] a <= 0": {999, 1000}, "prev once[1000, inf] true": {1001, 1002}, "not hist[1000, 1000] a >= 1": {1000}, "not hist[1000, inf] a >= 1": {1000, 1001, 1002}, "a >= 1 and not hist[0, 1000] a <= 1001": {1002}} {
		l, e := trace.All(formula(t, text), r.names, r.rows)
		var got []int
		for i, v := range l {
			if v == api.True {
				got = append(got, i)
			}
		}
		if e != api.OK || len(l) != 1003 || !slices.Equal(got, want) {
			t.Errorf("%s holds at %d, %d, not at %d", text, got, e, want)
		}
	}
}

// P902: core formulas that are no trees.
func TestGreatCoreFormulas(t *testing.T) {
	a := formula(t, "a <= 1")
	deep := a
	for range 30 {
		deep = core.Prev(deep)
	}
	if tree.Valid(deep) {
		t.Error("a deep formula is a tree")
	}
	l, e := trace.All(deep, []string{"a"}, counted(40).rows)
	for i, v := range l {
		if v == api.True != (i == 30 || i == 31) {
			t.Errorf("prev of 30 parts at %d: %d", i, v)
		}
	}
	if e != api.OK || len(l) != 40 {
		t.Errorf("prev of 30 parts: %d, %d", l, e)
	}
	var parts [][]api.Node
	for k := range 5000 {
		parts = append(parts, []api.Node{{Op: api.OpAtom, Num: -k, Terms: terms("a", one)}})
	}
	r := run{[]string{"a"}, [][]api.Fix{{1}, {0}, {-4999 + 1}, {-4999}, {-5000}}}
	r.check(t, of(api.OpOr, parts...), verdicts("-++++"))
	r.check(t, core.Not(of(api.OpOr, parts[4000:]...)), verdicts("++---"))
	// As many parts within one another as there may be: prev and not by turns.
	var most []api.Node
	for range 1 << 15 {
		most = append(most, api.Node{Op: api.OpNot, N: 1}, api.Node{Op: api.OpPrev, N: 1})
	}
	counted(5).check(t, append(most, a...), verdicts("+-+-+"))
	nested := []api.Node{}
	for range 1 << 15 {
		nested = append(nested, api.Node{Op: api.OpOr, N: 2}, api.Node{Op: api.OpFalse}, api.Node{Op: api.OpSince, N: 2, To: forever}, api.Node{})
	}
	counted(5).check(t, append(nested, a...), verdicts("+++++"))
}

// P902, P903: what is handed in stays as it was, and lists that are told are new.
func TestListsStay(t *testing.T) {
	n := append(formula(t, "(a + b <= 1 since[1, 2] prev b <= 0) or hist a <= 2 and not (true => once false)"), api.Node{Op: 7, N: 7})
	whole := len(n) - 1
	for i := range n {
		n[i].Terms = append(n[i].Terms, api.Term{Name: "spare", Times: i})[:len(n[i].Terms)]
	}
	names := []string{"a", "b", "a"}
	rows := [][]api.Fix{{1, 2, 3}, {one, 0, 5}, {2 * one, 2 * one, 6}, {top, top, top}}
	spare := func() (l []any) {
		for _, x := range n {
			l = append(l, x.Op, x.N, x.From, x.To, x.Num)
			for _, term := range x.Terms[:cap(x.Terms)] {
				l = append(l, term)
			}
		}
		for _, x := range names {
			l = append(l, x)
		}
		for _, row := range rows {
			for _, x := range row {
				l = append(l, x)
			}
		}
		return l
	}
	before := spare()
	in := [][]api.Fix{rows[0][:2], rows[1][:1], rows[2][:2], rows[3]}
	first, e := trace.All(n[:whole], names[:2], in[:3])
	second, _ := trace.All(n[:whole], names[:2], in[:3])
	if len(first) != 3 || e != api.OK {
		t.Fatalf("All: %d, %d", first, e)
	}
	want := slices.Clone(second)
	first[0], first[1], first[2] = 7, 7, 7
	third, _ := trace.All(n[:whole], names[:2], in[:3])
	if !slices.Equal(second, want) || !slices.Equal(third, want) {
		t.Errorf("All: %d, %d, not %d", second, third, want)
	}
	trace.Holds(n[:whole], names[:2], in[:3], 1)
	if !slices.Equal(spare(), before) || len(in[3]) != 3 {
		t.Errorf("%v became %v", before, spare())
	}
}
