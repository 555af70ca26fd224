package span_test

import (
	"math/big"
	"slices"
	"testing"

	"picket/api"
	"picket/fix"
	"picket/span"
)

const (
	one = api.One
	top = api.MaxFix
	low = api.MinFix
)

func s(lo, hi api.Fix) api.Span { return api.Span{Lo: lo, Hi: hi} }

var none = s(0, -1)

// numbers are the ends, nought, one and what stands beside them.
func numbers() []api.Fix {
	return []api.Fix{low, low + 1, low / 2, -3 * one, -one - 1, -one, -one / 2, -3, -1, 0, 1, 2, one / 2, one, one + 1, 5*one + 7, top / 2, top - 1, top}
}

// spans are all spans between these numbers, empty ones too.
func spans() []api.Span {
	var l []api.Span
	for _, x := range numbers() {
		for _, y := range numbers() {
			l = append(l, s(x, y))
		}
	}
	return l
}

// fewSpans are some of them, so that each may meet each.
func fewSpans() []api.Span {
	var l []api.Span
	for i, x := range spans() {
		if i%3 == 0 {
			l = append(l, x)
		}
	}
	return l
}

// check holds a call against the span and the Over that are wanted, with a fresh Acc and with one that is Over.
func check(t *testing.T, what string, do func(*span.Acc) api.Span, want api.Span, over bool) {
	t.Helper()
	var a span.Acc
	if got := do(&a); got != want || a.Over != over {
		t.Errorf("%s: %v, over %v, not %v, over %v", what, got, a.Over, want, over)
	}
	b := span.Acc{Acc: fix.Acc{Over: true}}
	if got := do(&b); got != want || !b.Over {
		t.Errorf("%s of an Acc that is Over: %v, over %v, not %v, over true", what, got, b.Over, want)
	}
}

func plus(l ...api.Span) func(*span.Acc) api.Span {
	return func(a *span.Acc) api.Span { return a.Plus(l...) }
}

func minus(x, y api.Span) func(*span.Acc) api.Span {
	return func(a *span.Acc) api.Span { return a.Minus(x, y) }
}

func times(x api.Span, c api.Fix) func(*span.Acc) api.Span {
	return func(a *span.Acc) api.Span { return a.Times(x, c) }
}

func cross(x, y api.Span) func(*span.Acc) api.Span {
	return func(a *span.Acc) api.Span { return a.Cross(x, y) }
}

func wide(x api.Fix) *big.Int { return big.NewInt(int64(x)) }

// settled tells what exact becomes at the ends, and whether it stays there.
func settled(exact *big.Int) (api.Fix, bool) {
	if exact.Cmp(wide(top)) > 0 {
		return top, true
	}
	if exact.Cmp(wide(low)) < 0 {
		return low, true
	}
	return int(exact.Int64()), false
}

// between tells the span of two exact ends, and whether one of them stays at the ends of a Fix.
func between(lo, hi *big.Int) (api.Span, bool) {
	l, a := settled(lo)
	h, b := settled(hi)
	return s(l, h), a || b
}

// down tells x / One rounded down, up rounded up.
func down(x *big.Int) *big.Int { return new(big.Int).Rsh(x, 32) }
func up(x *big.Int) *big.Int {
	return new(big.Int).Neg(down(new(big.Int).Neg(x)))
}

// outwards tells the least of exact products rounded down, and the greatest rounded up.
func outwards(l ...*big.Int) (api.Span, bool) {
	lo, hi := l[0], l[0]
	for _, x := range l {
		if x.Cmp(lo) < 0 {
			lo = x
		}
		if x.Cmp(hi) > 0 {
			hi = x
		}
	}
	return between(down(lo), up(hi))
}

func mul(x, y api.Fix) *big.Int { return new(big.Int).Mul(wide(x), wide(y)) }

// P201
func TestPlus(t *testing.T) {
	check(t, "Plus of none", plus(), s(0, 0), false)
	check(t, "Plus of one", plus(s(-3, 7)), s(-3, 7), false)
	check(t, "Plus of one number", plus(s(4, 4), s(5, 5)), s(9, 9), false)
	check(t, "Plus", plus(s(1, 2), s(10, 20)), s(11, 22), false)
	check(t, "Plus of three", plus(s(1, 2), s(10, 20), s(-100, 300)), s(-89, 322), false)
	check(t, "Plus, upper end", plus(s(1, top), s(1, 1)), s(2, top), true)
	check(t, "Plus, lower end", plus(s(low, 5), s(-1, 1)), s(low, 6), true)
	check(t, "Plus, out and back", plus(s(top, top), s(1, 1), s(-1, -1)), s(top, top), false)
	check(t, "Plus of an empty one", plus(s(9, 3)), none, false)
	check(t, "Plus with an empty one first", plus(s(9, 3), s(1, 2)), none, false)
	check(t, "Plus with an empty one last", plus(s(1, top), s(1, top), s(9, 3)), none, false)
}

// P201
func TestMinus(t *testing.T) {
	check(t, "Minus", minus(s(1, 2), s(10, 20)), s(-19, -8), false)
	check(t, "Minus of itself", minus(s(1, 4), s(1, 4)), s(-3, 3), false)
	check(t, "Minus, lower end", minus(s(low, 0), s(0, 1)), s(low, 0), true)
	check(t, "Minus, upper end", minus(s(0, top), s(-1, 0)), s(0, top), true)
	check(t, "Minus of MinFix", minus(s(-1, -1), s(low, low)), s(top, top), false)
	check(t, "Minus of an empty one", minus(s(3, 1), s(low, top)), none, false)
	check(t, "Minus with an empty one", minus(s(low, top), s(top, low)), none, false)
	for _, x := range fewSpans() {
		for _, y := range fewSpans() {
			want, over := none, false
			if x.Lo <= x.Hi && y.Lo <= y.Hi {
				want, over = between(new(big.Int).Sub(wide(x.Lo), wide(y.Hi)), new(big.Int).Sub(wide(x.Hi), wide(y.Lo)))
			}
			check(t, "Minus", minus(x, y), want, over)
		}
	}
}

// P201, P204
func TestTimes(t *testing.T) {
	check(t, "Times", times(s(-3, 5), one/2), s(-2, 3), false)
	check(t, "Times below nought", times(s(-3, 5), -one/2), s(-3, 2), false)
	check(t, "Times of one number, rounded to both sides", times(s(1, 1), 1), s(0, 1), false)
	check(t, "Times of one number below nought", times(s(-1, -1), 1), s(-1, 0), false)
	check(t, "Times nought", times(s(low, top), 0), s(0, 0), false)
	check(t, "Times one", times(s(low, top), one), s(low, top), false)
	check(t, "Times, upper end", times(s(0, top), 2*one), s(0, top), true)
	check(t, "Times, lower end", times(s(low, 0), one+1), s(low, 0), true)
	check(t, "Times of an empty one", times(s(1, 0), top), none, false)
	for _, x := range spans() {
		for _, c := range numbers() {
			want, over := none, false
			if x.Lo <= x.Hi {
				want, over = outwards(mul(x.Lo, c), mul(x.Hi, c))
			}
			check(t, "Times", times(x, c), want, over)
		}
	}
}

// P201, P204
func TestCross(t *testing.T) {
	check(t, "Cross", cross(s(-one, 2*one), s(-3*one, one)), s(-6*one, 3*one), false)
	check(t, "Cross of small ones", cross(s(-1, 1), s(-1, 1)), s(-1, 1), false)
	check(t, "Cross, lower end and upper end", cross(s(low, 0), s(-one, one)), s(low, top), true)
	check(t, "Cross of an empty one", cross(s(3, 1), s(low, top)), none, false)
	check(t, "Cross with an empty one", cross(s(low, top), s(3, 1)), none, false)
	for _, x := range fewSpans() {
		for _, y := range fewSpans() {
			want, over := none, false
			if x.Lo <= x.Hi && y.Lo <= y.Hi {
				want, over = outwards(mul(x.Lo, y.Lo), mul(x.Lo, y.Hi), mul(x.Hi, y.Lo), mul(x.Hi, y.Hi))
			}
			check(t, "Cross", cross(x, y), want, over)
		}
	}
}

// P201
func TestPromoted(t *testing.T) {
	var a span.Acc
	if got := a.Add(top, 1, -1); got != top || a.Over {
		t.Errorf("Add, promoted: %d, over %v", got, a.Over)
	}
	if got := a.Neg(low); got != top || !a.Over {
		t.Errorf("Neg of MinFix, promoted: %d, over %v", got, a.Over)
	}
	a.Plus(s(1, 2))
	if !a.Acc.Over {
		t.Error("an Acc that is Over is reset")
	}
}

// Rule 7 of the document: a nil object tells zero values.
func TestNilAcc(t *testing.T) {
	for i, do := range []func(*span.Acc) api.Span{plus(s(1, 2)), plus(s(2, 1)), minus(s(1, 2), s(5, 9)), times(s(1, 2), one), cross(s(1, 2), s(one, one))} {
		if got := do(nil); got != (api.Span{}) {
			t.Errorf("call %d of a nil Acc: %v", i, got)
		}
	}
}

// P202
func TestOfJoinMeet(t *testing.T) {
	for _, c := range []struct {
		what      string
		got, want api.Span
	}{
		{"Of none", span.Of(), none},
		{"Of one", span.Of(-7), s(-7, -7)},
		{"Of three", span.Of(3, 1, 2), s(1, 3)},
		{"Of three above one", span.Of(5, 9, 7), s(5, 9)},
		{"Of both ends", span.Of(top, low), s(low, top)},
		{"Join of none", span.Join(), none},
		{"Join of an empty one", span.Join(s(3, 1)), none},
		{"Join of empty ones", span.Join(s(3, 1), s(top, low)), none},
		{"Join of one", span.Join(s(4, 6)), s(4, 6)},
		{"Join of two apart", span.Join(s(5, 9), s(1, 2)), s(1, 9)},
		{"Join of one in the other", span.Join(s(1, 9), s(4, 5)), s(1, 9)},
		{"Join with empty ones", span.Join(s(5, 1), s(2, 3), s(top, low)), s(2, 3)},
		{"Meet of none", span.Meet(), s(low, top)},
		{"Meet of one", span.Meet(s(4, 6)), s(4, 6)},
		{"Meet of an empty one", span.Meet(s(6, 4)), none},
		{"Meet of two", span.Meet(s(1, 9), s(5, 20)), s(5, 9)},
		{"Meet of three", span.Meet(s(low, top), s(5, 20), s(0, 7)), s(5, 7)},
		{"Meet of one number", span.Meet(s(1, 5), s(5, 9)), s(5, 5)},
		{"Meet of two apart", span.Meet(s(1, 2), s(5, 6)), none},
		{"Meet with an empty one", span.Meet(s(0, 20), s(9, 1)), none},
	} {
		if c.got != c.want {
			t.Errorf("%s: %v, not %v", c.what, c.got, c.want)
		}
	}
}

// P202
func TestEmptyHasIn(t *testing.T) {
	for _, x := range spans() {
		if got := span.Empty(x); got != (x.Lo > x.Hi) {
			t.Errorf("Empty(%v): %v", x, got)
		}
		for _, n := range numbers() {
			if got := span.Has(x, n); got != (x.Lo <= n && n <= x.Hi) {
				t.Errorf("Has(%v, %d): %v", x, n, got)
			}
		}
		for _, y := range spans() {
			// All of x is in y, if its ends are: a span has what is between them.
			want := x.Lo > x.Hi || span.Has(y, x.Lo) && span.Has(y, x.Hi)
			if got := span.In(x, y); got != want {
				t.Errorf("In(%v, %v): %v", x, y, got)
			}
		}
	}
}

// P203
func TestHalves(t *testing.T) {
	for _, c := range []struct{ x, a, b api.Span }{
		{s(0, 3), s(0, 1), s(2, 3)},
		{s(0, 4), s(0, 2), s(3, 4)},
		{s(-3, 0), s(-3, -2), s(-1, 0)},
		{s(-4, 0), s(-4, -2), s(-1, 0)},
		{s(-1, 0), s(-1, -1), s(0, 0)},
		{s(5, 5), s(5, 5), none},
		{s(low, low), s(low, low), none},
		{s(6, 5), none, none},
		{s(top, low), none, none},
		{s(low, top), s(low, -1), s(0, top)},
		{s(top-1, top), s(top-1, top-1), s(top, top)},
		{s(low, low+1), s(low, low), s(low+1, low+1)},
	} {
		if a, b := span.Halves(c.x); a != c.a || b != c.b {
			t.Errorf("Halves(%v): %v, %v, not %v, %v", c.x, a, b, c.a, c.b)
		}
	}
	for _, x := range spans() {
		if x.Lo >= x.Hi {
			continue
		}
		m, _ := settled(new(big.Int).Rsh(new(big.Int).Add(wide(x.Lo), wide(x.Hi)), 1))
		if a, b := span.Halves(x); a != s(x.Lo, m) || b != s(m+1, x.Hi) {
			t.Errorf("Halves(%v): %v, %v", x, a, b)
		}
	}
}

// P203
func TestWide(t *testing.T) {
	for _, x := range spans() {
		for _, by := range numbers() {
			want := none
			if x.Lo <= x.Hi {
				d := wide(max(by, 0))
				want, _ = between(new(big.Int).Sub(wide(x.Lo), d), new(big.Int).Add(wide(x.Hi), d))
			}
			if got := span.Wide(x, by); got != want {
				t.Errorf("Wide(%v, %d): %v, not %v", x, by, got, want)
			}
		}
	}
	if got := span.Wide(s(1, 2), 5); got != s(-4, 7) {
		t.Errorf("Wide((1, 2), 5): %v", got)
	}
}

// P204: whatever numbers are in the spans that go in, what exact numbers give is in the span that comes out.
func TestExactIsWithin(t *testing.T) {
	in := func(what string, out api.Span, lo, hi *big.Int) {
		t.Helper()
		if lo.Cmp(wide(out.Lo)) < 0 || hi.Cmp(wide(out.Hi)) > 0 {
			t.Errorf("%s: %d to %d is not in %v", what, lo, hi, out)
		}
	}
	var l []api.Span
	for lo := -4; lo <= 4; lo++ {
		for hi := lo; hi <= 4; hi++ {
			l = append(l, s(lo*one/3, hi*one/3))
		}
	}
	for _, x := range l {
		for _, y := range l {
			var a span.Acc
			sum, less, product := a.Plus(x, y), a.Minus(x, y), a.Cross(x, y)
			for _, p := range []api.Fix{x.Lo, (x.Lo + x.Hi) >> 1, x.Hi} {
				for _, q := range []api.Fix{y.Lo, (y.Lo + y.Hi) >> 1, y.Hi} {
					in("Plus", sum, wide(p+q), wide(p+q))
					in("Minus", less, wide(p-q), wide(p-q))
					in("Cross", product, down(mul(p, q)), up(mul(p, q)))
					line := a.Times(x, q)
					in("Times", line, down(mul(p, q)), up(mul(p, q)))
				}
			}
			if a.Over {
				t.Errorf("%v, %v: Over, though nothing stays at its ends", x, y)
			}
		}
	}
}

// Lists that are handed in stay as they were, their spare room too.
func TestListsStay(t *testing.T) {
	room := []api.Span{s(5, 6), s(1, 2), s(9, 3), s(7, 7)}
	was := slices.Clone(room)
	var a span.Acc
	a.Plus(room[:2]...)
	a.Plus(room...)
	span.Join(room[:2]...)
	span.Join(room...)
	span.Meet(room[:2]...)
	span.Meet(room...)
	if !slices.Equal(room, was) {
		t.Errorf("spans: %v, not %v", room, was)
	}
	numbers := []api.Fix{3, 1, 2, 99}
	span.Of(numbers[:3]...)
	if !slices.Equal(numbers, []api.Fix{3, 1, 2, 99}) {
		t.Errorf("numbers: %v", numbers)
	}
}
