package trace

import (
	"cmp"
	"math/bits"

	"picket/api"
)

// Judge tells whether an atom of signals' numbers holds, and whether it overflows.
func Judge(a api.Atom, row ...api.Fix) (bool, bool) {
	products := make([]product, 0, api.MaxSignals)
	for _, w := range a.Terms {
		if 0 <= w.Signal && w.Signal < len(row) {
			products = append(products, times(w.Times, row[w.Signal]))
		}
	}
	s := sum(products...)
	over := s.compare(api.MaxFix) > 0 || s.compare(api.MinFix) < 0
	return !over && s.compare(a.Num) <= 0, over
}

// product is a number of 2^-64, in two halves.
type product struct {
	high int
	low  uint64
}

// times multiplies exactly.
func times(x, y api.Fix) product {
	high, low := bits.Mul64(uint64(x), uint64(y))
	// A number below 0 was taken for one that is 2^64 more.
	if x < 0 {
		high -= uint64(y)
	}
	if y < 0 {
		high -= uint64(x)
	}
	return product{high: int(high), low: low}
}

// total is what products add up to. As many as there are may need more than two halves.
type total struct {
	top       int
	high, low uint64
}

// sum adds exactly.
func sum(l ...product) total {
	var s total
	for _, p := range l {
		var carry uint64
		s.low, carry = bits.Add64(s.low, p.low, 0)
		s.high, carry = bits.Add64(s.high, uint64(p.high), carry)
		s.top += int(carry)
		if p.high < 0 {
			s.top--
		}
	}
	return s
}

// compare tells -1, 0 or 1: a sum is below a number, is it, or is above it.
func (s total) compare(x api.Fix) int {
	t := sum(times(x, api.One))
	return cmp.Or(cmp.Compare(s.top, t.top), cmp.Compare(s.high, t.high), cmp.Compare(s.low, t.low))
}
