package kinds_test

import (
	"slices"
	"testing"

	"picket/api"
	"picket/kinds"
	"picket/tree"
)

func prop(t *testing.T, name, text string) api.Prop {
	t.Helper()
	return api.Prop{Name: name, Body: formula(t, text)}
}

// manyProps tells so many properties, each with a name of its own.
func manyProps(n int) []api.Prop {
	var l []api.Prop
	for _, x := range many(n) {
		l = append(l, api.Prop{Name: "p_" + x.Name, Body: []api.Node{{}}})
	}
	return l
}

func sameSpec(a, b api.Spec) bool {
	return a.Name == b.Name && a.Limits == b.Limits && slices.Equal(a.Signals, b.Signals) && slices.EqualFunc(a.Props, b.Props, func(x, y api.Prop) bool {
		return x.Name == y.Name && tree.Same(x.Body, y.Body)
	})
}

// ab tells the signals a, b of m, t of s.
func ab() []api.Signal {
	return []api.Signal{signal("a", "m", 0, 10*one), signal("b", "m", 0, 10*one), signal("t", "s", 0, one)}
}

func newFails(t *testing.T, want api.Errno, whose string, s api.Spec) {
	t.Helper()
	if got, e, name := kinds.New(s); got != nil || e != want || name != whose {
		t.Errorf("New(%v): %v, %d, %q, not %d, %q", s, got, e, name, want, whose)
	}
}

// propsFail looks at New of ab and some properties.
func propsFail(t *testing.T, want api.Errno, whose string, l ...api.Prop) {
	t.Helper()
	newFails(t, want, whose, api.Spec{Name: "s", Signals: ab(), Props: l})
}

func newTells(t *testing.T, s api.Spec) *kinds.Sheet {
	t.Helper()
	got, e, name := kinds.New(s)
	if got == nil || e != api.OK || name != "" {
		t.Fatalf("New(%v): %v, %d, %q", s, got, e, name)
	}
	if !sameSpec(got.Spec(), s) {
		t.Errorf("Spec: %v, not %v", got.Spec(), s)
	}
	has(t, got.Names, s.Signals...)
	return got
}

// P703
func TestNew(t *testing.T) {
	newTells(t, api.Spec{Name: "s", Limits: api.Limits{Cells: 3, Steps: 4}, Signals: ab(), Props: []api.Prop{prop(t, "p", "a + b <= 3"), prop(t, "q", "hist[0, 3] (t <= 1 or not once a <= 1)"), prop(t, "true", "true")}})
	newTells(t, api.Spec{Name: "s", Signals: ab()})
	newTells(t, api.Spec{Name: "s", Props: []api.Prop{prop(t, "p", "true"), prop(t, "P", "true")}})
	// The specification's own name and its limits are not looked at, nor the name against others.
	for _, name := range append(noNames(), "a", "p", "spec") {
		newTells(t, api.Spec{Name: name, Limits: api.Limits{Cells: -1, Steps: top}, Signals: ab(), Props: []api.Prop{prop(t, "p", "a <= 1"), prop(t, "m", "b <= 1")}})
	}
	for _, name := range goodNames() {
		newTells(t, api.Spec{Props: []api.Prop{prop(t, name, "false")}})
	}
}

// P703: a specification without a signal is one, though a zero sheet is none.
func TestNewOfNothing(t *testing.T) {
	s := newTells(t, api.Spec{})
	checks(t, s, "true", api.OK)
	checks(t, s, "a <= 1", api.ErrName)
	checks(t, s, "once[3, 1] a <= 1", api.ErrRange)
	rangeFails(t, s, formula(t, "true"), api.ErrArg)
	rangeFails(t, s, nil, api.ErrText)
}

// P703: Find, Signal and Len are promoted.
func TestWhatASheetPromotes(t *testing.T) {
	l := ab()
	s := newTells(t, api.Spec{Name: "s", Signals: l, Props: []api.Prop{prop(t, "p", "a <= 1")}})
	for i, want := range l {
		if got, e := s.Find(want.Name); got != i || e != api.OK {
			t.Errorf("Find(%q): %d, %d", want.Name, got, e)
		}
		if got, e := s.Signal(i); got != want || e != api.OK {
			t.Errorf("Signal(%d): %v, %d", i, got, e)
		}
	}
	if i, e := s.Find("p"); i != 0 || e != api.ErrName {
		t.Errorf("Find of a property: %d, %d", i, e)
	}
	if x, e := s.Signal(3); x != (api.Signal{}) || e != api.ErrIndex {
		t.Errorf("Signal(3): %v, %d", x, e)
	}
	if s.Len() != 3 {
		t.Errorf("Len: %d", s.Len())
	}
}

// P703
func TestNewOfMany(t *testing.T) {
	for _, n := range []int{1, 15, 16} {
		newTells(t, api.Spec{Signals: many(16), Props: manyProps(n)})
	}
	for _, n := range []int{17, 18, 40} {
		propsFail(t, api.ErrLong, "", manyProps(n)...)
		propsFail(t, api.ErrLong, "", make([]api.Prop, n)...)
	}
	propsFail(t, api.ErrLong, "", make([]api.Prop, 100000)...)
}

// P703
func TestNewOfNames(t *testing.T) {
	p := prop(t, "p", "a <= 1")
	for _, name := range append(noNames(), "a", "b", "t", "p") {
		propsFail(t, api.ErrName, name, p, prop(t, name, "true"))
		propsFail(t, api.ErrName, name, p, prop(t, "q", "true"), prop(t, name, "true"), prop(t, "r", "true"))
	}
	propsFail(t, api.ErrName, "t", prop(t, "t", "true"))
	newTells(t, api.Spec{Signals: ab(), Props: []api.Prop{prop(t, "A", "true"), prop(t, "s", "true"), prop(t, "m", "true")}})
	l := manyProps(16)
	l[15].Name = l[0].Name
	propsFail(t, api.ErrName, l[0].Name, l...)
}

// P703: Check's errors, with the property's name.
func TestNewOfBodies(t *testing.T) {
	p := prop(t, "p", "a <= 1")
	for text, want := range map[string]api.Errno{"z <= 1": api.ErrName, "p <= 1": api.ErrName, "a + t <= 1": api.ErrUnit, "once[3, 1] true": api.ErrRange, "hist[1001, inf] true": api.ErrRange, "a <= 1 since[0, 1001] true": api.ErrRange, "a + t <= 1 or z <= 1": api.ErrUnit} {
		propsFail(t, want, "q", prop(t, "q", text))
		propsFail(t, want, "q", p, prop(t, "q", text), prop(t, "r", "once[2, 1] z <= 1"))
	}
	for _, n := range [][]api.Node{nil, {}, {{Op: 99}}, {{Op: api.OpNot, N: 1}}, {{}, {}}} {
		propsFail(t, api.ErrText, "q", p, api.Prop{Name: "q", Body: n})
	}
}

// P703: of several errors the first one is told.
func TestWhichOfSeveralErrorsOfNew(t *testing.T) {
	p := prop(t, "p", "a <= 1")
	noName, noBody, noText := prop(t, "9", "true"), prop(t, "q", "z <= 1"), api.Prop{Name: "r"}
	both := prop(t, "8", "z + t <= 1")
	propsFail(t, api.ErrName, "8", both)
	propsFail(t, api.ErrName, "8", p, both, noText)
	propsFail(t, api.ErrText, "r", noText, both)
	propsFail(t, api.ErrName, "q", noBody, noName)
	propsFail(t, api.ErrName, "9", noName, noBody, noText)
	propsFail(t, api.ErrText, "r", noText, noText)
	propsFail(t, api.ErrName, "p", p, api.Prop{Name: "p"}, noText)
	propsFail(t, api.ErrName, "a", p, api.Prop{Name: "a"}, noText)
	propsFail(t, api.ErrLong, "", append(manyProps(17), noName, noText)...)
	propsFail(t, api.ErrLong, "", append([]api.Prop{noName, noText, p, p}, manyProps(16)...)...)
	// The names' errors come ahead of all that is said of properties.
	empty := append(ab(), signal("e", "m", 1, 0))
	for _, l := range [][]api.Prop{nil, {p}, {noName}, {noText}, manyProps(17), make([]api.Prop, 40)} {
		newFails(t, api.ErrRange, "e", api.Spec{Signals: empty, Props: l})
		newFails(t, api.ErrName, "a", api.Spec{Signals: append(ab(), ab()...), Props: l})
		newFails(t, api.ErrLong, "", api.Spec{Signals: many(17), Props: l})
	}
}

// P702, P703: errors are told of the sheet's own signals, at any time.
func TestSheetsHaveSignalsOfTheirOwn(t *testing.T) {
	first := sheetOf(t, signal("a", "m", 0, one), signal("b", "s", 0, one))
	second := sheetOf(t, signal("b", "m", 0, 2*one), signal("c", "m", 0, one))
	for range 2 {
		checks(t, first, "a + b <= 1", api.ErrUnit)
		checks(t, second, "b + c <= 1", api.OK)
		checks(t, first, "c <= 1", api.ErrName)
		checks(t, second, "a <= 1", api.ErrName)
		ranges(t, first, "b <= 1", 0, one)
		ranges(t, second, "b <= 1", 0, 2*one)
	}
}

// roomySpec tells a specification with spare room in each of its lists.
func roomySpec(t *testing.T) api.Spec {
	t.Helper()
	s := api.Spec{Name: "s", Limits: api.Limits{Cells: 3, Steps: 4}}
	s.Signals = append(make([]api.Signal, 0, 9), ab()...)
	s.Props = append(make([]api.Prop, 0, 9), prop(t, "p", "a + b <= 3 and t <= 1"), prop(t, "q", "once[0, 3] a - b <= 3"))
	for i, p := range s.Props {
		s.Props[i].Body = append(make([]api.Node, 0, 9), p.Body...)
		for j, part := range p.Body {
			s.Props[i].Body[j].Terms = append(make([]api.Term, 0, 9), part.Terms...)
		}
	}
	return s
}

// spareIsZero tells whether the room that roomySpec left is as it was.
func spareIsZero(s api.Spec) bool {
	for _, x := range s.Signals[len(s.Signals):cap(s.Signals)] {
		if x != (api.Signal{}) {
			return false
		}
	}
	for _, p := range s.Props[len(s.Props):cap(s.Props)] {
		if p.Name != "" || p.Body != nil {
			return false
		}
	}
	for _, p := range s.Props {
		for _, part := range p.Body[:cap(p.Body)] {
			for _, x := range part.Terms[len(part.Terms):cap(part.Terms)] {
				if x != (api.Term{}) {
					return false
				}
			}
		}
		for _, part := range p.Body[len(p.Body):cap(p.Body)] {
			if !tree.Same([]api.Node{part}, []api.Node{{}}) {
				return false
			}
		}
	}
	return true
}

// spoil changes all of a specification's lists, and what room they have beside them.
func spoil(s api.Spec) {
	for _, p := range s.Props {
		for _, part := range p.Body {
			for i := range part.Terms[:cap(part.Terms)] {
				part.Terms[:cap(part.Terms)][i] = api.Term{Name: "spoilt", Times: -7}
			}
		}
		for i := range p.Body[:cap(p.Body)] {
			p.Body[:cap(p.Body)][i] = api.Node{Op: -7, N: -7}
		}
	}
	for i := range s.Props[:cap(s.Props)] {
		s.Props[:cap(s.Props)][i] = api.Prop{Name: "spoilt"}
	}
	for i := range s.Signals[:cap(s.Signals)] {
		s.Signals[:cap(s.Signals)][i] = signal("spoilt", "x", 9, 9)
	}
}

// P703: what is handed in stays as it was and is not kept; what Spec tells has lists of its own, each time.
func TestSpecHasListsOfItsOwn(t *testing.T) {
	s := roomySpec(t)
	got := newTells(t, s)
	if !sameSpec(s, roomySpec(t)) || !spareIsZero(s) {
		t.Errorf("New changed what was handed in: %v", s)
	}
	spoil(s)
	first, second := got.Spec(), got.Spec()
	if !sameSpec(first, roomySpec(t)) {
		t.Errorf("New kept what was handed in: %v", first)
	}
	spoil(first)
	if !sameSpec(second, roomySpec(t)) || !sameSpec(got.Spec(), roomySpec(t)) {
		t.Errorf("Spec's lists are not its own: %v, %v", second, got.Spec())
	}
	has(t, got.Names, ab()...)
	checks(t, got, "a + b <= 3 and t <= 1", api.OK)
	checks(t, got, "spoilt <= 1", api.ErrName)
}

// Check and Range leave formulas as they were.
func TestCheckLeavesListsAsTheyWere(t *testing.T) {
	s := ordinary(t)
	spec := roomySpec(t)
	for _, p := range spec.Props {
		s.Check(p.Body)
		s.Range(p.Body)
		s.Range(p.Body[len(p.Body)-1:])
	}
	if !sameSpec(spec, roomySpec(t)) || !spareIsZero(spec) {
		t.Errorf("a formula was changed: %v", spec)
	}
}
