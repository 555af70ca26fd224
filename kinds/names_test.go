package kinds_test

import (
	"slices"
	"strconv"
	"strings"
	"testing"

	"picket/api"
	"picket/kinds"
)

const (
	one     = api.One
	top     = api.MaxFix
	low     = api.MinFix
	forever = api.Forever
)

func signal(name, unit string, lo, hi api.Fix) api.Signal {
	return api.Signal{Name: name, Unit: unit, Span: api.Span{Lo: lo, Hi: hi}}
}

// many tells so many signals, each with a name of its own.
func many(n int) []api.Signal {
	var l []api.Signal
	for i := range n {
		l = append(l, signal("s"+strconv.Itoa(i), "m", api.Fix(i), top))
	}
	return l
}

// noNames are texts that are none to lex.
func noNames() []string {
	return []string{"", "9", "9a", "_", "_a", "a b", " a", "a ", "a-b", "a.b", "<=", "a#", "a\n", "a\x00", "\xc3\xa9", "a\xff", strings.Repeat("a", 25)}
}

// goodNames are names to lex, reserved ones among them.
func goodNames() []string {
	return []string{"a", "A", "z", "Z", "a_", "a9_Z", "true", "spec", "inf", "signal", strings.Repeat("a", 24)}
}

func namesOf(t *testing.T, l ...api.Signal) *kinds.Names {
	t.Helper()
	s, e, whose := kinds.NewNames(l...)
	if s == nil || e != api.OK || whose != "" {
		t.Fatalf("NewNames(%v): %v, %d, %q", l, s, e, whose)
	}
	return s
}

// has looks whether names are these signals, and no others.
func has(t *testing.T, s *kinds.Names, l ...api.Signal) {
	t.Helper()
	if s.Len() != len(l) {
		t.Errorf("Len: %d, not %d", s.Len(), len(l))
	}
	for i, want := range l {
		if got, e := s.Signal(i); got != want || e != api.OK {
			t.Errorf("Signal(%d): %v, %d, not %v", i, got, e, want)
		}
		if got, e := s.Find(want.Name); got != i || e != api.OK {
			t.Errorf("Find(%q): %d, %d, not %d", want.Name, got, e, i)
		}
	}
	for _, i := range []int{-1, -2, len(l), len(l) + 1, 16, 1 << 32, top, low} {
		if got, e := s.Signal(i); got != (api.Signal{}) || e != api.ErrIndex {
			t.Errorf("Signal(%d): %v, %d, not ErrIndex", i, got, e)
		}
	}
	for _, name := range append(noNames(), "nobody", "aa", "b_") {
		if got, e := s.Find(name); got != 0 || e != api.ErrName {
			t.Errorf("Find(%q): %d, %d, not ErrName", name, got, e)
		}
	}
}

func namesFail(t *testing.T, want api.Errno, whose string, l ...api.Signal) {
	t.Helper()
	if s, e, name := kinds.NewNames(l...); s != nil || e != want || name != whose {
		t.Errorf("NewNames(%v): %v, %d, %q, not %d, %q", l, s, e, name, want, whose)
	}
	// A sheet's errors begin with these.
	if s, e, name := kinds.New(api.Spec{Signals: l}); s != nil || e != want || name != whose {
		t.Errorf("New of signals %v: %v, %d, %q, not %d, %q", l, s, e, name, want, whose)
	}
}

// P701
func TestNames(t *testing.T) {
	a, b, c := signal("a", "m", 0, 10*one), signal("b", "m", -one, 10*one), signal("t", "s", 0, one)
	has(t, namesOf(t))
	has(t, namesOf(t, a), a)
	has(t, namesOf(t, a, b, c), a, b, c)
	has(t, namesOf(t, c, a, b), c, a, b)
	for _, name := range goodNames() {
		has(t, namesOf(t, signal(name, "m", 0, 1)), signal(name, "m", 0, 1))
	}
	upper, lower := signal("x", "m", 0, 1), signal("X", "s", 0, 2)
	has(t, namesOf(t, upper, lower), upper, lower)
}

// P701: units may be any texts.
func TestNamesOfAnyUnits(t *testing.T) {
	for _, unit := range append(noNames(), goodNames()...) {
		x, y := signal("x", unit, 0, 1), signal("y", "m", 0, 1)
		has(t, namesOf(t, x, y), x, y)
	}
}

// P701
func TestNamesOfMany(t *testing.T) {
	for _, n := range []int{1, 15, 16} {
		l := many(n)
		has(t, namesOf(t, l...), l...)
	}
	for _, n := range []int{17, 18, 40, 100000} {
		namesFail(t, api.ErrLong, "", many(n)...)
		namesFail(t, api.ErrLong, "", make([]api.Signal, n)...)
	}
}

// P701
func TestNamesThatAreNone(t *testing.T) {
	good := signal("good", "m", 0, 1)
	for _, name := range noNames() {
		x := signal(name, "m", 0, 1)
		namesFail(t, api.ErrName, name, x)
		namesFail(t, api.ErrName, name, x, good)
		namesFail(t, api.ErrName, name, good, x)
	}
}

// P701
func TestNamesThatStandTwice(t *testing.T) {
	a, b, c := signal("a", "m", 0, 1), signal("b", "m", 0, 1), signal("c", "m", 0, 1)
	namesFail(t, api.ErrName, "a", a, a)
	namesFail(t, api.ErrName, "a", a, signal("a", "s", 2, 3))
	namesFail(t, api.ErrName, "a", a, b, c, a)
	namesFail(t, api.ErrName, "c", a, b, c, c)
	namesFail(t, api.ErrName, "b", a, b, c, b, a)
	l := many(16)
	l[15].Name = l[0].Name
	namesFail(t, api.ErrName, l[0].Name, l...)
}

// P701
func TestNamesOfSpans(t *testing.T) {
	for _, x := range []api.Span{{Lo: 0, Hi: -1}, {Lo: 1, Hi: 0}, {Lo: top, Hi: low}, {Lo: top, Hi: top - 1}, {Lo: low + 1, Hi: low}} {
		namesFail(t, api.ErrRange, "a", signal("a", "m", x.Lo, x.Hi))
		namesFail(t, api.ErrRange, "a", signal("z", "m", 0, 1), signal("a", "m", x.Lo, x.Hi))
	}
	for _, x := range []api.Span{{}, {Lo: -1, Hi: 0}, {Lo: 5, Hi: 5}, {Lo: low, Hi: top}, {Lo: low, Hi: low}, {Lo: top, Hi: top}} {
		a := signal("a", "m", x.Lo, x.Hi)
		has(t, namesOf(t, a), a)
	}
}

// P701: of several errors the first one is told, signal by signal.
func TestWhichOfSeveralErrorsOfNames(t *testing.T) {
	a, b := signal("a", "m", 0, 1), signal("b", "m", 0, 1)
	noName, emptyA, both := signal("9", "m", 0, 1), signal("a", "m", 1, 0), signal("8", "m", 1, 0)
	namesFail(t, api.ErrName, "8", both)
	namesFail(t, api.ErrName, "a", a, emptyA)
	namesFail(t, api.ErrRange, "a", emptyA, a)
	namesFail(t, api.ErrRange, "a", emptyA, emptyA)
	namesFail(t, api.ErrRange, "a", emptyA, noName)
	namesFail(t, api.ErrName, "9", noName, emptyA)
	namesFail(t, api.ErrRange, "a", b, emptyA, both, b)
	namesFail(t, api.ErrName, "8", b, both, emptyA, b)
	namesFail(t, api.ErrName, "b", b, b, noName, emptyA)
	namesFail(t, api.ErrLong, "", append(many(17), noName, emptyA)...)
	namesFail(t, api.ErrLong, "", append([]api.Signal{noName, emptyA, a, a}, many(16)...)...)
}

// P704
func TestNamesThatAreNilOrZero(t *testing.T) {
	var none *kinds.Names
	has(t, none)
	has(t, &kinds.Names{})
	has(t, new(kinds.Sheet).Names)
}

// What is handed in stays as it was, its spare room too, and is not kept.
func TestNamesLeaveListsAsTheyWere(t *testing.T) {
	want := many(3)
	l := append(make([]api.Signal, 0, 9), want...)
	s := namesOf(t, l...)
	if !slices.Equal(l, want) || slices.ContainsFunc(l[3:9], func(x api.Signal) bool { return x != (api.Signal{}) }) {
		t.Errorf("NewNames changed its list: %v", l[:9])
	}
	clear(l)
	has(t, s, want...)
	other := namesOf(t, many(2)...)
	has(t, other, many(2)...)
	has(t, s, want...)
}
