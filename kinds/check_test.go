package kinds_test

import (
	"testing"

	"picket/api"
	"picket/kinds"
	"picket/tree"
)

func formula(t *testing.T, text string) []api.Node {
	t.Helper()
	n, e, _, _ := tree.Formula(text)
	if e != api.OK {
		t.Fatalf("Formula(%q): %d", text, e)
	}
	return n
}

func sheetOf(t *testing.T, l ...api.Signal) *kinds.Sheet {
	t.Helper()
	s, e, whose := kinds.New(api.Spec{Name: "s", Signals: l})
	if s == nil || e != api.OK || whose != "" {
		t.Fatalf("New: %v, %d, %q", s, e, whose)
	}
	return s
}

// ordinary tells a sheet with a and b of m in [0, 10], t of s in [0, 1].
func ordinary(t *testing.T) *kinds.Sheet {
	t.Helper()
	return sheetOf(t, signal("a", "m", 0, 10*one), signal("b", "m", 0, 10*one), signal("t", "s", 0, one))
}

func checks(t *testing.T, s *kinds.Sheet, text string, want api.Errno) {
	t.Helper()
	if e := s.Check(formula(t, text)); e != want {
		t.Errorf("Check(%s): %d, not %d", text, e, want)
	}
}

// P702
func TestCheck(t *testing.T) {
	s := ordinary(t)
	for _, text := range []string{"true", "false", "a <= 1", "a + b <= 3", "a - 2*b + a >= -3", "t <= 1", "0*t <= 9", "a <= 1 and t <= 1", "a <= 1 => prev t <= 1", "hist (a <= 1 since[0, 3] once[2, 2] (b <= 1 or not t <= 1))", "not prev true"} {
		checks(t, s, text, api.OK)
	}
}

// P702
func TestCheckOfWhatIsNoTree(t *testing.T) {
	s := ordinary(t)
	a, z := formula(t, "a <= 1"), formula(t, "z <= 1")
	deep := formula(t, "true")
	for range 24 {
		deep = tree.Make(api.Node{Op: api.OpNot}, deep)
	}
	wide := make([]api.Node, 301)
	wide[0] = api.Node{Op: api.OpOr, N: 300}
	for _, n := range [][]api.Node{
		nil, {}, append(formula(t, "a <= 1"), a...), append(formula(t, "z <= 1"), z...), {{Op: api.OpNot, N: 1}}, {{Op: 11}}, {{Op: -1}},
		{{Op: api.OpAtom}}, {{Op: api.OpTrue, From: 1}}, {{Op: api.OpAnd, N: 1}, {}}, {{Op: api.OpAnd, N: top}, {}}, {{Op: api.OpNot, N: low}},
		{{Op: api.OpOnce, N: 1, From: -1}, {}}, {{Op: api.OpOnce, N: 1, To: -2}, {}},
		{{Op: api.OpAtom, Terms: []api.Term{{Name: "true", Times: one}}}}, {{Op: api.OpAtom, Terms: []api.Term{{Name: "a", Times: low}}}},
		{{Op: api.OpOr, N: 2}, z[0], {Op: api.OpNot}}, {{Op: api.OpOnce, N: 1, From: 3, To: 1}, {Op: api.OpAtom}},
		deep, wide,
	} {
		if e := s.Check(n); e != api.ErrText {
			t.Errorf("Check(%v): %d, not ErrText", n, e)
		}
		rangeFails(t, s, n, api.ErrText)
	}
	checks(t, s, "not not not not not not not not not not not not not not not not not not not not not not not a <= 1", api.OK)
	if e := s.Check(wide[:300]); e != api.ErrText {
		t.Errorf("Check of 299 of 300 parts: %d, not ErrText", e)
	}
	wide[0].N = 299
	if e := s.Check(wide[:300]); e != api.OK {
		t.Errorf("Check of 300 parts: %d", e)
	}
}

// P702: a name can be reserved where signals are said, but no tree has it.
func TestCheckOfReservedNames(t *testing.T) {
	s := sheetOf(t, signal("true", "m", 0, 1))
	checks(t, s, "true", api.OK)
	if e := s.Check([]api.Node{{Op: api.OpAtom, Terms: []api.Term{{Name: "true", Times: one}}}}); e != api.ErrText {
		t.Errorf("Check of an atom of a reserved name: %d, not ErrText", e)
	}
}

// P702
func TestCheckOfAtoms(t *testing.T) {
	s := ordinary(t)
	for _, text := range []string{"z <= 1", "a + z <= 1", "z + a <= 1", "A <= 1", "aa <= 1", "a + z + b <= 1", "m <= 1", "0*z <= 1"} {
		checks(t, s, text, api.ErrName)
		checks(t, s, "not once[0, 3] ("+text+" or true)", api.ErrName)
	}
	for _, text := range []string{"a + t <= 3", "t + a <= 3", "a + b + a + t <= 3", "a + t + a <= 3", "t - a - b <= 3", "a + 0*t <= 3"} {
		checks(t, s, text, api.ErrUnit)
		checks(t, s, "true since (false or "+text+")", api.ErrUnit)
	}
	// Of one atom a signal that is not known comes first, wherever it stands.
	for _, text := range []string{"a + t + z <= 3", "a + z + t <= 3", "z + a + t <= 3", "t + t + a + b + z <= 0"} {
		checks(t, s, text, api.ErrName)
	}
}

// P702
func TestCheckOfUnits(t *testing.T) {
	s := sheetOf(t, signal("a", "", 0, 1), signal("b", "", 0, 1), signal("c", "m", 0, 1), signal("d", "M", 0, 1), signal("e", "m", 5, 6), signal("f", "m ", 0, 1))
	for text, want := range map[string]api.Errno{"a <= 1": 0, "a + b <= 1": 0, "c + e <= 1": 0, "c + c + c <= 1": 0, "a + c <= 1": api.ErrUnit, "c + b <= 1": api.ErrUnit, "c + d <= 1": api.ErrUnit, "c + f <= 1": api.ErrUnit, "e + e + d <= 1": api.ErrUnit} {
		checks(t, s, text, want)
	}
}

// P702
func TestCheckOfIntervals(t *testing.T) {
	s := ordinary(t)
	ends := []int{0, 1, 2, 3, 999, 1000, 1001, 1002, 1<<31 - 1}
	for _, op := range []int{api.OpOnce, api.OpHist, api.OpSince} {
		for _, from := range ends {
			for _, to := range append(ends, forever) {
				n := []api.Node{{Op: op, N: 1, From: from, To: to}, {}}
				if op == api.OpSince {
					n[0].N = 2
					n = append(n, api.Node{})
				}
				want := api.ErrRange
				if from <= 1000 && (to == forever || from <= to && to <= 1000) {
					want = api.OK
				}
				if e := s.Check(n); e != want {
					t.Errorf("Check of Op %d from %d to %d: %d, not %d", op, from, to, e, want)
				}
			}
		}
	}
}

// P702: part by part, as they stand, a part ahead of those within it.
func TestWhichOfSeveralErrorsOfCheck(t *testing.T) {
	s := ordinary(t)
	faults := map[string]api.Errno{"z <= 1": api.ErrName, "a + t <= 1": api.ErrUnit, "once[3, 1] true": api.ErrRange, "hist[1001, inf] true": api.ErrRange, "(true since[0, 1001] true)": api.ErrRange}
	for first, want := range faults {
		for second := range faults {
			for _, word := range []string{"and", "or", "since", "=>"} {
				checks(t, s, first+" "+word+" "+second, want)
				checks(t, s, "a <= 1 "+word+" "+first, want)
				checks(t, s, "not prev ("+first+" "+word+" true) or "+second, want)
			}
			checks(t, s, "once[3, 1] "+first, api.ErrRange)
			checks(t, s, "once[1, 3] "+first, want)
			checks(t, s, "hist "+first, want)
			checks(t, s, "("+first+") since[2, 1] "+second, api.ErrRange)
			checks(t, s, "("+first+") since[1, 2] "+second, want)
			checks(t, s, "true and true and "+first+" and "+second, want)
		}
	}
}

// checkedByHand tells Check's error of a tree as the chapter says it, by names and units.
func checkedByHand(n []api.Node, units map[string]string) api.Errno {
	for _, part := range n {
		seen := map[string]bool{}
		for _, x := range part.Terms {
			unit, is := units[x.Name]
			if !is {
				return api.ErrName
			}
			seen[unit] = true
		}
		if len(seen) > 1 {
			return api.ErrUnit
		}
		if part.Op < api.OpOnce {
			continue
		}
		to := part.To
		if to == forever {
			to = max(part.From, 1000)
		}
		if part.From > to || to > 1000 {
			return api.ErrRange
		}
	}
	return api.OK
}

// P702: strewn trees, held against the chapter's words.
func TestCheckOfStrewnTrees(t *testing.T) {
	s := ordinary(t)
	units := map[string]string{"a": "m", "b": "m", "t": "s"}
	next := strewn(1)
	seen := map[api.Errno]int{}
	for range 20000 {
		n := someTree(next, next(4))
		want := checkedByHand(n, units)
		seen[want]++
		if e := s.Check(n); e != want {
			t.Errorf("Check(%v): %d, not %d", n, e, want)
		}
	}
	for _, e := range []api.Errno{api.OK, api.ErrName, api.ErrUnit, api.ErrRange} {
		if seen[e] < 1000 {
			t.Errorf("only %d trees of which Check tells %d", seen[e], e)
		}
	}
}

// strewn tells numbers that look like chance, and are the same each time.
func strewn(seed uint64) func(int) int {
	return func(n int) int {
		seed = seed*6364136223846793005 + 1442695040888963407
		return int(seed>>33) % n
	}
}

// someTree tells a tree in which parts stand within at most so many others.
func someTree(next func(int) int, deep int) []api.Node {
	if deep == 0 {
		n := api.Node{Op: next(3)}
		for n.Op == api.OpAtom && (n.Terms == nil || next(3) == 0) {
			name := []string{"a", "b", "t"}[next(3)]
			if next(6) == 0 {
				name = "z"
			}
			n.Terms = append(n.Terms, api.Term{Name: name, Times: (next(5) - 2) * one})
		}
		return []api.Node{n}
	}
	op := api.OpNot + next(8)
	kids := [][]api.Node{someTree(next, deep-1)}
	if op == api.OpAnd || op == api.OpOr || op == api.OpThen || op == api.OpSince {
		kids = append(kids, someTree(next, deep-1))
	}
	n := api.Node{Op: op}
	if op >= api.OpOnce {
		n.From, n.To = next(4), []int{2, 9, forever}[next(3)]
		if next(9) == 0 {
			n.To = 1001
		}
	}
	return tree.Make(n, kids...)
}

// P704
func TestSheetThatIsNilOrZero(t *testing.T) {
	var none *kinds.Sheet
	var zero kinds.Sheet
	for _, n := range [][]api.Node{nil, {}, formula(t, "true"), formula(t, "a <= 1"), formula(t, "once[3, 1] true"), {{Op: 99}}} {
		for _, s := range []*kinds.Sheet{none, &zero} {
			if e := s.Check(n); e != api.ErrArg {
				t.Errorf("Check(%v): %d, not ErrArg", n, e)
			}
			rangeFails(t, s, n, api.ErrArg)
		}
	}
	has(t, zero.Names)
	if i, e := zero.Find("a"); i != 0 || e != api.ErrName {
		t.Errorf("Find of a zero sheet: %d, %d", i, e)
	}
	if x, e := zero.Signal(0); x != (api.Signal{}) || e != api.ErrIndex {
		t.Errorf("Signal of a zero sheet: %v, %d", x, e)
	}
	if zero.Len() != 0 {
		t.Errorf("Len of a zero sheet: %d", zero.Len())
	}
	for _, s := range []api.Spec{none.Spec(), zero.Spec()} {
		if s.Name != "" || s.Limits != (api.Limits{}) || len(s.Signals)+len(s.Props) != 0 {
			t.Errorf("Spec of no sheet: %v", s)
		}
	}
}
