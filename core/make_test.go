package core_test

import (
	"testing"

	"picket/api"
	"picket/core"
	"picket/tree"
)

const (
	forever = api.Forever
	maxInt  = 1<<63 - 1
	minInt  = -1 << 63
)

func formula(t *testing.T, text string) []api.Node {
	t.Helper()
	n, e, _, _ := tree.Formula(text)
	if e != api.OK {
		t.Fatalf("Formula(%q): %d", text, e)
	}
	return n
}

// says holds a formula against the text of the one that is wanted, as it stands there.
func says(t *testing.T, what string, got []api.Node, want string) {
	t.Helper()
	if n := formula(t, want); !equal(got, n) {
		t.Errorf("%s: %v, not %q", what, got, want)
	}
}

// of puts a part together by hand.
func of(op int, l ...[]api.Node) []api.Node { return timed(op, 0, 0, l...) }

func timed(op, from, to int, l ...[]api.Node) []api.Node {
	n := []api.Node{{Op: op, N: len(l), From: from, To: to}}
	for _, part := range l {
		n = append(n, part...)
	}
	return n
}

// P801
func TestNot(t *testing.T) {
	for text, want := range map[string]string{
		"true": "false", "false": "true", "a <= 1": "not a <= 1", "not a <= 1": "a <= 1", "not not a <= 1": "not a <= 1", "not not not a <= 1": "not not a <= 1",
		"a <= 1 or b <= 1": "not (a <= 1 or b <= 1)", "not (a <= 1 or b <= 1)": "a <= 1 or b <= 1", "prev true": "not prev true", "not prev true": "prev true",
		"not true": "true", "not false": "false", "a <= 1 since[1, 2] b <= 1": "not (a <= 1 since[1, 2] b <= 1)", "not (a <= 1 since[1, 2] b <= 1)": "a <= 1 since[1, 2] b <= 1",
	} {
		says(t, "Not of "+text, core.Not(formula(t, text)), want)
	}
}

// formulas tells several, of their texts.
func formulas(t *testing.T, l ...string) [][]api.Node {
	t.Helper()
	var all [][]api.Node
	for _, text := range l {
		all = append(all, formula(t, text))
	}
	return all
}

// P801
func TestOr(t *testing.T) {
	for _, x := range []struct {
		want string
		l    []string
	}{
		{"false", nil},
		{"false", []string{"false"}},
		{"false", []string{"false", "false"}},
		{"true", []string{"true"}},
		{"true", []string{"false", "true"}},
		{"true", []string{"a <= 1", "b <= 1", "true"}},
		{"true", []string{"true", "false", "a <= 1"}},
		{"a <= 1", []string{"a <= 1"}},
		{"a <= 1", []string{"a <= 1", "a <= 1"}},
		{"a <= 1", []string{"false", "a <= 1", "a <= 1"}},
		{"a <= 1", []string{"a <= 1", "false"}},
		{"a <= 1 or b <= 1", []string{"a <= 1", "b <= 1"}},
		{"b <= 1 or a <= 1", []string{"b <= 1", "a <= 1"}},
		{"b <= 1 or a <= 1 or c <= 1", []string{"b <= 1", "a <= 1", "b <= 1", "false", "c <= 1", "a <= 1", "c <= 1"}},
		{"a <= 1 or b <= 1 or c <= 1", []string{"a <= 1 or b <= 1", "c <= 1"}},
		{"a <= 1 or b <= 1 or c <= 1", []string{"a <= 1", "b <= 1 or c <= 1"}},
		{"a <= 1 or b <= 1 or c <= 1 or d <= 1", []string{"a <= 1 or b <= 1", "c <= 1 or d <= 1"}},
		{"a <= 1 or b <= 1 or c <= 1", []string{"a <= 1 or b <= 1", "c <= 1 or a <= 1", "b <= 1"}},
		{"a <= 1 or b <= 1", []string{"a <= 1 or b <= 1"}},
		{"a <= 1", []string{"a <= 1 or false"}},
		{"a <= 1", []string{"a <= 1 or a <= 1"}},
		{"false", []string{"false or false"}},
		{"true", []string{"a <= 1 or true"}},
		{"true", []string{"a <= 1 or b <= 1", "c <= 1 or not b <= 1"}},
		{"true", []string{"a <= 1", "not a <= 1"}},
		{"true", []string{"not a <= 1", "a <= 1"}},
		{"true", []string{"b <= 1", "not a <= 1", "c <= 1", "a <= 1"}},
		{"true", []string{"not not a <= 1", "not a <= 1"}},
		{"true", []string{"not prev true", "prev true"}},
		{"true", []string{"not (a <= 1 since[1, 2] b <= 1)", "a <= 1 since[1, 2] b <= 1"}},
		{"not (a <= 1 since[1, 2] b <= 1) or a <= 1 since[1, 3] b <= 1", []string{"not (a <= 1 since[1, 2] b <= 1)", "a <= 1 since[1, 3] b <= 1"}},
		{"a <= 1 or not a <= 2", []string{"a <= 1", "not a <= 2"}},
		{"a <= 1 or not not a <= 1", []string{"a <= 1", "not not a <= 1"}},
		{"a <= 1 or b <= 1 or not (a <= 1 or b <= 1)", []string{"a <= 1 or b <= 1", "not (a <= 1 or b <= 1)"}},
		{"prev (a <= 1 or b <= 1) or a <= 1", []string{"prev (a <= 1 or b <= 1)", "a <= 1"}},
		{"a <= 1 or a + b <= 1 or 2*a <= 1 or b <= 1 or a <= 2", []string{"a <= 1", "a + b <= 1", "2*a <= 1", "b <= 1", "a <= 2"}},
		{"a + b <= 1 or b + a <= 1", []string{"a + b <= 1", "b + a <= 1"}},
		{"ab + a <= 1 or a + ba <= 1", []string{"ab + a <= 1", "a + ba <= 1"}},
	} {
		says(t, "Or", core.Or(formulas(t, x.l...)...), x.want)
	}
}

// P801: what is an or within an or's list, as no maker makes it, is one of its parts, and stays.
func TestOrOfAnOrWithinAnOr(t *testing.T) {
	l := formulas(t, "(a <= 1 or b <= 1) or c <= 1", "d <= 1")
	says(t, "Or", core.Or(l...), "(a <= 1 or b <= 1) or c <= 1 or d <= 1")
}

// P801
func TestAnd(t *testing.T) {
	for _, x := range []struct {
		want string
		l    []string
	}{
		{"true", nil},
		{"true", []string{"true"}},
		{"true", []string{"true", "true"}},
		{"false", []string{"false"}},
		{"false", []string{"a <= 1", "false", "b <= 1"}},
		{"a <= 1", []string{"a <= 1"}},
		{"a <= 1", []string{"a <= 1", "true", "a <= 1"}},
		{"a <= 1 or b <= 1", []string{"a <= 1 or b <= 1"}},
		{"not (not a <= 1 or not b <= 1)", []string{"a <= 1", "b <= 1"}},
		{"not (not b <= 1 or not a <= 1)", []string{"b <= 1", "true", "a <= 1", "b <= 1"}},
		{"not (a <= 1 or not b <= 1)", []string{"not a <= 1", "b <= 1"}},
		{"not (not a <= 1 or not b <= 1 or not c <= 1)", []string{"a <= 1", "not (not b <= 1 or not c <= 1)"}},
		{"not (not a <= 1 or not b <= 1 or not c <= 1)", []string{"not (not a <= 1 or not b <= 1)", "c <= 1"}},
		{"not (not (a <= 1 or b <= 1) or not c <= 1)", []string{"a <= 1 or b <= 1", "c <= 1"}},
		{"false", []string{"a <= 1", "not a <= 1"}},
		{"false", []string{"not a <= 1", "b <= 1", "a <= 1"}},
		{"false", []string{"a <= 1", "not (not b <= 1 or a <= 1)"}},
	} {
		says(t, "And", core.And(formulas(t, x.l...)...), x.want)
	}
}

// P801
func TestPrev(t *testing.T) {
	for text, want := range map[string]string{"false": "false", "true": "prev true", "a <= 1": "prev a <= 1", "not false": "prev not false", "prev false": "prev prev false", "a <= 1 or b <= 1": "prev (a <= 1 or b <= 1)"} {
		says(t, "Prev of "+text, core.Prev(formula(t, text)), want)
	}
}

// P801
func TestSince(t *testing.T) {
	for _, x := range []struct {
		from, to   int
		p, q, want string
	}{
		{0, 0, "a <= 1", "b <= 1", "b <= 1"},
		{0, 0, "false", "b <= 1", "b <= 1"},
		{0, 0, "a <= 1", "false", "false"},
		{0, 5, "a <= 1", "false", "false"},
		{0, forever, "true", "false", "false"},
		{0, 5, "false", "false", "false"},
		{5, 4, "a <= 1", "b <= 1", "false"},
		{1, 0, "a <= 1", "b <= 1", "false"},
		{1, 0, "false", "true", "false"},
		{0, 5, "false", "b <= 1", "b <= 1"},
		{0, forever, "false", "b <= 1", "b <= 1"},
		{1, 5, "false", "b <= 1", "false"},
		{1, 1, "false", "true", "false"},
		{1, forever, "false", "b <= 1", "false"},
		{0, 1, "a <= 1", "b <= 1", "a <= 1 since[0, 1] b <= 1"},
		{5, 5, "a <= 1", "b <= 1", "a <= 1 since[5, 5] b <= 1"},
		{0, forever, "a <= 1", "b <= 1", "a <= 1 since b <= 1"},
		{5, forever, "a <= 1", "b <= 1", "a <= 1 since[5, inf] b <= 1"},
		{0, 5, "true", "true", "true since[0, 5] true"},
		{1000, 1001, "b <= 1 or c <= 1", "not a <= 1", "(b <= 1 or c <= 1) since[1000, 1001] not a <= 1"},
		{2147483647, 2147483647, "true", "b <= 1", "true since[2147483647, 2147483647] b <= 1"},
	} {
		says(t, "Since of "+x.p+" and "+x.q, core.Since(x.from, x.to, formula(t, x.p), formula(t, x.q)), x.want)
	}
}

// P801: ends may be any ints.
func TestSinceOfAnyEnds(t *testing.T) {
	p, q := formula(t, "a <= 1"), formula(t, "b <= 1")
	for _, x := range []struct {
		from, to int
		stands   bool
	}{{minInt, maxInt, true}, {maxInt, minInt, false}, {maxInt, forever, true}, {minInt, forever, true}, {forever, forever, true}, {maxInt, maxInt, true}, {minInt, minInt, true}, {0, -2, false}, {-3, -2, true}, {-2, -3, false}, {0, maxInt, true}} {
		want := timed(api.OpSince, x.from, x.to, p, q)
		if !x.stands {
			want = of(api.OpFalse)
		}
		if got := core.Since(x.from, x.to, p, q); !equal(got, want) {
			t.Errorf("Since(%d, %d): %v", x.from, x.to, got)
		}
	}
}

// P801: makers end soon where there are many formulas.
func TestOrOfMany(t *testing.T) {
	const many = 1 << 16
	var l [][]api.Node
	for i := range many {
		l = append(l, []api.Node{{Op: api.OpAtom, Num: i, Terms: []api.Term{{Name: "a", Times: api.One}}}})
	}
	for i := range 100 {
		l = append(l, l[i], of(api.OpFalse))
	}
	got := core.Or(l...)
	if want := of(api.OpOr, l[:many]...); !equal(got, want) || !core.IsCore(got) {
		t.Errorf("Or of many atoms has %d parts", len(got))
	}
	if twice := core.Or(got, got, got); !equal(twice, got) {
		t.Errorf("Or of an or of many atoms, three times, has %d parts", len(twice))
	}
	for _, i := range []int{0, many / 2, many - 1} {
		says(t, "Or of many atoms and a Not", core.Or(append(l[:many:many], core.Not(l[i]))...), "true")
		says(t, "Or of a Not and many atoms", core.Or(core.Not(l[i]), got), "true")
	}
	and := core.And(append(l[:many:many], l[:9]...)...)
	if len(and) != 2+2*many || !core.IsCore(and) {
		t.Errorf("And of many atoms has %d parts", len(and))
	}
	says(t, "And of an and of many atoms and a Not", core.And(and, core.Not(l[7])), "false")
}

// odd are lists that are no core formulas.
func odd() [][]api.Node {
	a := api.Node{Op: api.OpAtom, Terms: []api.Term{{Name: "a", Times: api.One}}}
	return [][]api.Node{
		nil, {}, {a, a}, {a, a, a},
		{{Op: api.OpNot}}, {{Op: api.OpNot, N: 1}}, {{Op: api.OpNot, N: -1}, a}, {{Op: api.OpNot, N: 1}, {Op: api.OpNot, N: 1}}, {{Op: api.OpNot, N: 2}, a, a},
		{{Op: api.OpOr}}, {{Op: api.OpOr, N: 1}, a}, {{Op: api.OpOr, N: 5}}, {{Op: api.OpOr, N: 5}, a}, {{Op: api.OpOr, N: maxInt}, a}, {{Op: api.OpOr, N: minInt}, a, a}, {{Op: api.OpOr, N: 2}, a, a, a},
		{{Op: api.OpOr, N: 2}, {Op: api.OpOr, N: maxInt}, {Op: api.OpOr, N: maxInt}, a}, {{Op: api.OpOr, N: 2}, {Op: api.OpOr, N: minInt}, {Op: api.OpOr, N: minInt}},
		{{Op: api.OpPrev}}, {{Op: api.OpPrev, N: 1}}, {{Op: api.OpSince, N: 2}, a}, {{Op: api.OpSince, N: 2, From: 3, To: 2}, a, a},
		{{Op: api.OpTrue, N: 1}}, {{Op: api.OpFalse, N: 3}, a}, {{Op: api.OpTrue, From: 1}}, {{Op: api.OpAtom}}, {{Op: api.OpAtom, N: 1}, a},
		{{Op: api.OpAnd, N: 2}, a, a}, {{Op: api.OpThen, N: 2}, a, a}, {{Op: api.OpOnce, N: 1}, a}, {{Op: api.OpHist, N: 1}, a},
		{{Op: 11}}, {{Op: -1}}, {{Op: maxInt, N: maxInt, From: maxInt, To: maxInt, Num: maxInt}}, {{Op: minInt, N: minInt, From: minInt, To: minInt, Num: minInt}},
	}
}

// P801: makers do not panic, whatever they are handed.
func TestMakersOfWhatIsNoCore(t *testing.T) {
	all := append(odd(), formula(t, "true"), formula(t, "false"), formula(t, "a <= 1"), formula(t, "not a <= 1"), formula(t, "a <= 1 or b <= 1"))
	for _, p := range all {
		core.Not(p)
		core.Prev(p)
		for _, q := range all {
			core.Since(1, 2, p, q)
			core.Since(0, 0, p, q)
			for _, r := range all {
				core.Or(p, q, r)
				core.And(p, q, r)
			}
		}
	}
	core.Or(all...)
	core.And(all...)
	core.Or(nil...)
	core.And(nil...)
	core.Or([][]api.Node{}...)
	core.And([][]api.Node{}...)
}
