package fix_test

import (
	"math/big"
	"testing"

	"picket/api"
	"picket/fix"
)

const (
	one = api.One
	top = api.MaxFix
	low = api.MinFix
)

// samples are the ends, nought, one, what stands beside them, and numbers strewn over all sizes.
func samples() []api.Fix {
	l := []api.Fix{low, low + 1, low + 2, low / 2, -one - 1, -one, -one + 1, -one / 2, -3, -2, -1, 0, 1, 2, 3, one / 2, one - 1, one, one + 1, 3 * one, top / 2, top - 2, top - 1, top}
	x := uint64(1)
	for i := range 64 {
		x = x*6364136223846793005 + 1442695040888963407
		l = append(l, int(x)>>i)
	}
	return l
}

// wide tells a number of any size.
func wide(x api.Fix) *big.Int { return big.NewInt(int64(x)) }

// settled tells what exact becomes at the ends, and whether it stays there.
func settled(exact *big.Int) (api.Fix, bool) {
	if exact.Cmp(wide(top)) > 0 {
		return top, true
	}
	if exact.Cmp(wide(low)) < 0 {
		return low, true
	}
	return int(exact.Int64()), false
}

// rounded tells n / d, d not nought, rounded down, or up.
func rounded(n, d *big.Int, up bool) *big.Int {
	if d.Sign() < 0 {
		n, d = new(big.Int).Neg(n), new(big.Int).Neg(d)
	}
	q, rest := new(big.Int).DivMod(n, d, new(big.Int))
	if up && rest.Sign() != 0 {
		q.Add(q, big.NewInt(1))
	}
	return q
}

// check holds a call against the number and the Over that are wanted, with a fresh Acc, one that is Over, and none.
func check(t *testing.T, what string, do func(*fix.Acc) api.Fix, want api.Fix, over bool) {
	t.Helper()
	var a fix.Acc
	if got := do(&a); got != want || a.Over != over {
		t.Errorf("%s: %d, over %v, not %d, over %v", what, got, a.Over, want, over)
	}
	b := fix.Acc{Over: true}
	if got := do(&b); got != want || !b.Over {
		t.Errorf("%s of an Acc that is Over: %d, over %v, not %d, over true", what, got, b.Over, want)
	}
	if got := do(nil); got != want {
		t.Errorf("%s of a nil Acc: %d, not %d", what, got, want)
	}
}

func add(l ...api.Fix) func(*fix.Acc) api.Fix {
	return func(a *fix.Acc) api.Fix { return a.Add(l...) }
}

func sub(x, y api.Fix) func(*fix.Acc) api.Fix {
	return func(a *fix.Acc) api.Fix { return a.Sub(x, y) }
}

func neg(x api.Fix) func(*fix.Acc) api.Fix {
	return func(a *fix.Acc) api.Fix { return a.Neg(x) }
}

func mul(x, y api.Fix, up bool) func(*fix.Acc) api.Fix {
	return func(a *fix.Acc) api.Fix { return a.Mul(x, y, up) }
}

func div(x, y api.Fix, up bool) func(*fix.Acc) api.Fix {
	return func(a *fix.Acc) api.Fix { return a.Div(x, y, up) }
}

// P101
func TestAddIsExact(t *testing.T) {
	check(t, "Add()", add(), 0, false)
	check(t, "Add(7)", add(7), 7, false)
	check(t, "Add(top, 1, -1)", add(top, 1, -1), top, false)
	check(t, "Add(low, -1, 1)", add(low, -1, 1), low, false)
	check(t, "Add(top, 1)", add(top, 1), top, true)
	check(t, "Add(low, -1)", add(low, -1), low, true)
	check(t, "Add(top, top, low, low)", add(top, top, low, low), -2, false)
	check(t, "Add(low, low, low, top, top, top)", add(low, low, low, top, top, top), -3, false)
	check(t, "Add(one, -3)", add(one, -3), one-3, false)
}

// P101
func TestAddOfMany(t *testing.T) {
	var l []api.Fix
	for range 10000 {
		l = append(l, top)
	}
	check(t, "Add of many tops", add(l...), top, true)
	for range 10000 {
		l = append(l, low)
	}
	check(t, "Add of many ends", add(l...), -10000, false)
	for range 20000 {
		l = append(l, low)
	}
	check(t, "Add of many lows", add(l...), low, true)
}

// P101, P107
func TestSumsOfSamples(t *testing.T) {
	for _, x := range samples() {
		bx := wide(x)
		want, over := settled(new(big.Int).Neg(bx))
		check(t, "Neg", neg(x), want, over)
		for _, y := range samples() {
			by := wide(y)
			sum := new(big.Int).Add(bx, by)
			want, over = settled(sum)
			check(t, "Add of two", add(x, y), want, over)
			want, over = settled(sum.Add(sum, by))
			check(t, "Add of three", add(x, y, y), want, over)
			want, over = settled(new(big.Int).Sub(bx, by))
			check(t, "Sub", sub(x, y), want, over)
		}
	}
}

// P101
func TestSubAndNegAtTheEnds(t *testing.T) {
	check(t, "Sub(1, 3)", sub(1, 3), -2, false)
	check(t, "Sub(low, 1)", sub(low, 1), low, true)
	check(t, "Sub(top, -1)", sub(top, -1), top, true)
	check(t, "Sub(0, low)", sub(0, low), top, true)
	check(t, "Sub(-1, low)", sub(-1, low), top, false)
	check(t, "Sub(low, low)", sub(low, low), 0, false)
	check(t, "Neg(low)", neg(low), top, true)
	check(t, "Neg(top)", neg(top), low+1, false)
	check(t, "Neg(0)", neg(0), 0, false)
}

// P101: the list is the caller's.
func TestListsAreLeftAlone(t *testing.T) {
	l := []api.Fix{3, 1, 2, 9}
	var a fix.Acc
	a.Add(l[:3]...)
	fix.Max(l[:3]...)
	fix.Min(l[:3]...)
	for i, want := range []api.Fix{3, 1, 2, 9} {
		if l[i] != want {
			t.Errorf("at %d stands %d, not %d", i, l[i], want)
		}
	}
}

// P102
func TestMulRounds(t *testing.T) {
	check(t, "one half times 3, down", mul(one/2, 3, false), 1, false)
	check(t, "one half times 3, up", mul(one/2, 3, true), 2, false)
	check(t, "less one half times 3, down", mul(-one/2, 3, false), -2, false)
	check(t, "less one half times 3, up", mul(-one/2, 3, true), -1, false)
	check(t, "-1 times 1, down", mul(-1, 1, false), -1, false)
	check(t, "-1 times 1, up", mul(-1, 1, true), 0, false)
	check(t, "-1 times -1, down", mul(-1, -1, false), 0, false)
	check(t, "-1 times -1, up", mul(-1, -1, true), 1, false)
	check(t, "3 times -2, up", mul(3*one, -2*one, true), -6*one, false)
	check(t, "0 times low, down", mul(0, low, false), 0, false)
}

// P102
func TestMulAtTheEnds(t *testing.T) {
	check(t, "low times one", mul(low, one, false), low, false)
	check(t, "low times less one", mul(low, -one, false), top, true)
	check(t, "top times less one", mul(top, -one, false), -top, false)
	check(t, "top times top", mul(top, top, false), top, true)
	check(t, "low times low", mul(low, low, true), top, true)
	check(t, "low times top", mul(low, top, true), low, true)
	// Where the exact product is past an end by less than 2^-32 the side decides whether what comes out is.
	x, y := justBelow(95)
	check(t, "a part above top, down", mul(x, y, false), top, false)
	check(t, "a part above top, up", mul(x, y, true), top, true)
	x, y = justAbove(95)
	check(t, "a part below low, up", mul(-x, y, true), low, false)
	check(t, "a part below low, down", mul(-x, y, false), low, true)
	// Rounded away from nought this one is the first that has more than 64 bits.
	x, y = justBelow(96)
	check(t, "far above top, up", mul(x, y, true), top, true)
	check(t, "far below low, down", mul(x, -y, false), low, true)
}

// justBelow tells two Fixes whose product, as ints, is less than 2^32 below 2^n: times 2^-32 it is no whole number.
func justBelow(n uint) (api.Fix, api.Fix) {
	end := new(big.Int).Lsh(big.NewInt(1), n)
	for x := 1<<(n-63) + 1; ; x++ {
		y, rest := new(big.Int).DivMod(end, wide(x), new(big.Int))
		if rest.Sign() > 0 && rest.Cmp(wide(one)) < 0 {
			return x, int(y.Int64())
		}
	}
}

// justAbove tells two Fixes whose product, as ints, is less than 2^32 above 2^n.
func justAbove(n uint) (api.Fix, api.Fix) {
	end := new(big.Int).Lsh(big.NewInt(1), n)
	for x := 1<<(n-63) + 1; ; x++ {
		y, rest := new(big.Int).DivMod(end, wide(x), new(big.Int))
		if more := x - int(rest.Int64()); rest.Sign() > 0 && more < one {
			return x, int(y.Int64()) + 1
		}
	}
}

// P102, P107
func TestProductsOfSamples(t *testing.T) {
	unit := wide(one)
	for _, x := range samples() {
		for _, y := range samples() {
			exact := new(big.Int).Mul(wide(x), wide(y))
			for _, up := range []bool{false, true} {
				want, over := settled(rounded(exact, unit, up))
				check(t, "Mul", mul(x, y, up), want, over)
			}
		}
	}
}

// P102
func TestDivRounds(t *testing.T) {
	check(t, "1 by 3, down", div(one, 3*one, false), 1431655765, false)
	check(t, "1 by 3, up", div(one, 3*one, true), 1431655766, false)
	check(t, "-1 by 3, down", div(-one, 3*one, false), -1431655766, false)
	check(t, "-1 by 3, up", div(-one, 3*one, true), -1431655765, false)
	check(t, "1 by -3, down", div(one, -3*one, false), -1431655766, false)
	check(t, "-1 by -3, up", div(-one, -3*one, true), 1431655766, false)
	check(t, "6 by -2, up", div(6*one, -2*one, true), -3*one, false)
	check(t, "0 by -5, up", div(0, -5, true), 0, false)
	check(t, "the least by low, down", div(1, low, false), -1, false)
	check(t, "the least by low, up", div(1, low, true), 0, false)
}

// P102
func TestDivAtTheEnds(t *testing.T) {
	for _, up := range []bool{false, true} {
		check(t, "1 by nought", div(1, 0, up), top, true)
		check(t, "top by nought", div(top, 0, up), top, true)
		check(t, "-1 by nought", div(-1, 0, up), low, true)
		check(t, "low by nought", div(low, 0, up), low, true)
		check(t, "nought by nought", div(0, 0, up), 0, true)
		check(t, "low by less one", div(low, -one, up), top, true)
		check(t, "low by one", div(low, one, up), low, false)
		check(t, "low by the least", div(low, 1, up), low, true)
		check(t, "low by less the least", div(low, -1, up), top, true)
		check(t, "top by the least", div(top, 1, up), top, true)
		check(t, "low by low", div(low, low, up), one, false)
	}
}

// P102, P107
func TestQuotientsOfSamples(t *testing.T) {
	for _, x := range samples() {
		exact := new(big.Int).Lsh(wide(x), 32)
		for _, y := range samples() {
			if y == 0 {
				continue
			}
			for _, up := range []bool{false, true} {
				want, over := settled(rounded(exact, wide(y), up))
				check(t, "Div", div(x, y, up), want, over)
			}
		}
	}
}

// P101, P102: Over is never taken back.
func TestOverStays(t *testing.T) {
	var a fix.Acc
	if a.Add(top, 1, -1); a.Over {
		t.Error("Over of a sum that came back")
	}
	if a.Add(top, 1); !a.Over {
		t.Error("no Over of a sum that did not come back")
	}
	a.Add(1)
	a.Sub(1, 1)
	a.Neg(1)
	a.Mul(one, one, true)
	a.Div(one, one, true)
	if !a.Over {
		t.Error("Over was taken back")
	}
}

// P103
func TestGreatestAndLeast(t *testing.T) {
	for _, c := range []struct {
		l           []api.Fix
		least, most api.Fix
	}{
		{nil, 0, 0},
		{[]api.Fix{}, 0, 0},
		{[]api.Fix{-5}, -5, -5},
		{[]api.Fix{5}, 5, 5},
		{[]api.Fix{1, 5, 3}, 1, 5},
		{[]api.Fix{-5, -3}, -5, -3},
		{[]api.Fix{4, -2, top, low}, low, top},
	} {
		if got := fix.Max(c.l...); got != c.most {
			t.Errorf("Max(%v): %d, not %d", c.l, got, c.most)
		}
		if got := fix.Min(c.l...); got != c.least {
			t.Errorf("Min(%v): %d, not %d", c.l, got, c.least)
		}
	}
}

// P103
func TestClamp(t *testing.T) {
	for _, c := range []struct{ x, lo, hi, want api.Fix }{
		{5, 0, 3, 3},
		{3, 0, 3, 3},
		{2, 0, 3, 2},
		{0, 0, 3, 0},
		{-5, 0, 3, 0},
		{top, low, top, top},
		{low, low, top, low},
		// Of ends that are the wrong way round the upper one is looked at first.
		{2, 3, 0, 0},
		{5, 3, 0, 0},
		{0, 3, 0, 3},
		{-5, 3, 0, 3},
	} {
		if got := fix.Clamp(c.x, c.lo, c.hi); got != c.want {
			t.Errorf("Clamp(%d, %d, %d): %d, not %d", c.x, c.lo, c.hi, got, c.want)
		}
	}
}
