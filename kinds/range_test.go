package kinds_test

import (
	"math/big"
	"testing"

	"picket/api"
	"picket/kinds"
)

func ranges(t *testing.T, s *kinds.Sheet, text string, lo, hi api.Fix) {
	t.Helper()
	got, e := s.Range(formula(t, text))
	if want := (api.Span{Lo: lo, Hi: hi}); got != want || e != api.OK {
		t.Errorf("Range(%s): %v, %d, not %v", text, got, e, want)
	}
}

func rangeFails(t *testing.T, s *kinds.Sheet, n []api.Node, want api.Errno) {
	t.Helper()
	if got, e := s.Range(n); got != (api.Span{}) || e != want {
		t.Errorf("Range(%v): %v, %d, not %d", n, got, e, want)
	}
}

// P702
func TestRange(t *testing.T) {
	s := sheetOf(t, signal("a", "m", 0, 10*one), signal("b", "m", 0, 10*one), signal("c", "m", -3*one, 5*one), signal("d", "m", 7*one, 7*one), signal("t", "s", 0, one))
	ranges(t, s, "2*a - b <= 0", -10*one, 20*one)
	ranges(t, s, "a <= 5", 0, 10*one)
	ranges(t, s, "a >= 5", -10*one, 0) // with all signs turned
	ranges(t, s, "-a <= 5", -10*one, 0)
	ranges(t, s, "0*a <= 5", 0, 0)
	ranges(t, s, "d <= 5", 7*one, 7*one)
	ranges(t, s, "d + d - d <= 5", 7*one, 7*one)
	ranges(t, s, "a - a <= 0", -10*one, 10*one) // each of them wherever it may be
	ranges(t, s, "-2*c <= 0", -10*one, 6*one)
	ranges(t, s, "0.5*c + a - 3*b + d <= 100", -24*one-one/2, 19*one+one/2)
	ranges(t, s, "t <= 100", 0, one)
	ranges(t, s, "c <= 0", -3*one, 5*one)
	ranges(t, s, "c <= 1000", -3*one, 5*one)
}

// P702: ends are rounded outwards, of each term.
func TestRangeIsRoundedOutwards(t *testing.T) {
	s := sheetOf(t, signal("a", "m", -3, 5), signal("b", "m", 1, 1))
	ranges(t, s, "0.5*a <= 0", -2, 3)
	ranges(t, s, "-0.5*a <= 0", -3, 2)
	ranges(t, s, "0.5*a + 0.5*a <= 0", -4, 6)
	ranges(t, s, "0.5*b <= 0", 0, 1)
	ranges(t, s, "0.5*b + 0.5*b <= 0", 0, 2)
	ranges(t, s, "0.5*b - 0.5*b <= 0", -1, 1)
	ranges(t, s, "0.00000000023283064365386962890625*b <= 0", 0, 1)
	ranges(t, s, "-0.00000000023283064365386962890625*b <= 0", -1, 0)
}

// P702: Check's errors come first.
func TestRangeOfWhatIsNoAtom(t *testing.T) {
	s := ordinary(t)
	for text, want := range map[string]api.Errno{
		"true": api.ErrArg, "false": api.ErrArg, "not a <= 1": api.ErrArg, "a <= 1 and b <= 1": api.ErrArg, "a <= 1 or b <= 1": api.ErrArg, "a <= 1 => a <= 1": api.ErrArg,
		"prev a <= 1": api.ErrArg, "once a <= 1": api.ErrArg, "hist[0, 0] a <= 1": api.ErrArg, "a <= 1 since a <= 1": api.ErrArg,
		"z <= 1": api.ErrName, "a + t <= 1": api.ErrUnit, "not z <= 1": api.ErrName, "not a + t <= 1": api.ErrUnit, "once[3, 1] a <= 1": api.ErrRange, "hist[0, 1001] true": api.ErrRange,
	} {
		rangeFails(t, s, formula(t, text), want)
	}
}

// P702
func TestRangeOfSumsAtTheEnds(t *testing.T) {
	s := sheetOf(t, signal("v", "m", 0, top), signal("w", "m", low, 0), signal("x", "m", top, top), signal("y", "m", low, low), signal("n", "m", -1, -1), signal("p", "m", 1, 1))
	for _, text := range []string{"v + v <= 0", "2*v <= 0", "w + w <= 0", "2*w <= 0", "-w <= 0", "-2*v <= 0", "w - v <= 0", "v + p <= 0", "x + p <= 0", "y + n <= 0", "-y <= 0", "2*x - x <= 0", "2*x - 2*x <= 0", "v + v - v <= 0", "x + x - v <= 0", "v - w <= 0", "1.00000000023283064365386962890625*x <= 0"} {
		rangeFails(t, s, formula(t, text), api.ErrOver)
	}
	ranges(t, s, "v <= 0", 0, top)
	ranges(t, s, "w <= 0", low, 0)
	ranges(t, s, "v + w <= 0", low, top)
	ranges(t, s, "v - v <= 0", -top, top)
	ranges(t, s, "-v <= 0", -top, 0)
	ranges(t, s, "-v + n <= 0", low, -1)
	ranges(t, s, "0*v + 0*w <= 0", 0, 0)
	// The sum leaves the ends on the way, and comes back.
	ranges(t, s, "x + x - x <= 0", top, top)
	ranges(t, s, "x + x + y + y <= 0", -2, -2)
	ranges(t, s, "y + y + x + x <= 0", -2, -2)
	ranges(t, s, "v + p + n <= 0", 0, top)
	ranges(t, s, "x + p + p + y <= 0", 1, 1)
	ranges(t, s, "w + n + p <= 0", low, 0)
	ranges(t, s, "x + x + x + x + x + x + x + x + y + y + y + y + y + y + y + y <= 0", -8, -8)
}

// product tells x times y as it is rounded, in whole numbers of any size.
func product(x, y api.Fix, up bool) *big.Int {
	p := new(big.Int).Mul(big.NewInt(int64(x)), big.NewInt(int64(y)))
	if up {
		p.Neg(p)
	}
	p.Rsh(p, 32) // rounds down
	if up {
		p.Neg(p)
	}
	return p
}

// rangedByHand tells the ends of a sum, and whether all numbers on the way are Fixes.
func rangedByHand(n api.Node, spans map[string]api.Span) (lo, hi *big.Int, fits bool) {
	lo, hi, fits = new(big.Int), new(big.Int), true
	for _, x := range n.Terms {
		from, to := spans[x.Name].Lo, spans[x.Name].Hi
		if x.Times < 0 {
			from, to = to, from
		}
		least, most := product(from, x.Times, false), product(to, x.Times, true)
		fits = fits && least.IsInt64() && most.IsInt64()
		lo.Add(lo, least)
		hi.Add(hi, most)
	}
	return lo, hi, fits && lo.IsInt64() && hi.IsInt64()
}

// P702: strewn atoms, held against whole numbers of any size.
func TestRangeOfStrewnAtoms(t *testing.T) {
	next := strewn(2)
	some := func() api.Fix {
		return []api.Fix{0, 1, -1, one, -one, 3 * one / 2, 7*one + 5, top, -top, top / 2, low/2 - 1, next(1000) - 500, (next(1<<31) - 1<<30) << next(33)}[next(13)]
	}
	over := 0
	for range 20000 {
		spans := map[string]api.Span{}
		var l []api.Signal
		for _, name := range []string{"a", "b", "c"} {
			x, y := some(), some()
			spans[name] = api.Span{Lo: min(x, y), Hi: max(x, y)}
			l = append(l, signal(name, "m", min(x, y), max(x, y)))
		}
		n := api.Node{Op: api.OpAtom, Num: some()}
		for range 1 + next(5) {
			n.Terms = append(n.Terms, api.Term{Name: []string{"a", "b", "c"}[next(3)], Times: some()})
		}
		lo, hi, fits := rangedByHand(n, spans)
		got, e := sheetOf(t, l...).Range([]api.Node{n})
		if !fits {
			over++
			if got != (api.Span{}) || e != api.ErrOver {
				t.Errorf("Range(%v) of %v: %v, %d, not ErrOver", n, l, got, e)
			}
			continue
		}
		if want := (api.Span{Lo: int(lo.Int64()), Hi: int(hi.Int64())}); got != want || e != api.OK {
			t.Errorf("Range(%v) of %v: %v, %d, not %v", n, l, got, e, want)
		}
	}
	if over < 1000 || over > 19000 {
		t.Errorf("%d of 20000 sums stay at the ends", over)
	}
}
