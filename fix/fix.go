// Package fix reckons with numbers of 2^-32 that stay at their ends.
package fix

import (
	"math/bits"
	"slices"

	"picket/api"
)

// A Fix has 32 bits behind the point, which are half of it.
const (
	half    = 32
	lowHalf = 1<<half - 1
)

// Acc remembers whether a number stayed at its ends.
type Acc struct{ Over bool }

// Add adds all.
func (a *Acc) Add(l ...api.Fix) api.Fix {
	// Halves are summed apart, so that what leaves the ends on the way may come back.
	hi, lo := 0, 0
	for _, x := range l {
		lo += x & lowHalf
		hi += x>>half + lo>>half
		lo &= lowHalf
	}
	if hi > api.MaxFix>>half || hi < api.MinFix>>half {
		return a.end(hi < 0)
	}
	return hi<<half | lo
}

// Sub takes one from another.
func (a *Acc) Sub(x, y api.Fix) api.Fix {
	// 0 less y may be no Fix, but ^y, which is that less 1, always is.
	return a.Add(x, ^y, 1)
}

// Mul multiplies.
func (a *Acc) Mul(x, y api.Fix, up bool) api.Fix {
	below := (x < 0) != (y < 0)
	hi, lo := product(sizeOf(x), sizeOf(y))
	if hi>>half != 0 {
		return a.end(below)
	}
	return a.round(hi<<half|lo>>half, lo&lowHalf != 0, below, up)
}

// Div divides.
func (a *Acc) Div(x, y api.Fix, up bool) api.Fix {
	if y == 0 {
		return a.byNought(x)
	}
	below := (x < 0) != (y < 0)
	n, d := sizeOf(x), sizeOf(y)
	hi, lo := n>>half, n<<half
	if hi >= d { // the quotient has more than 64 bits
		return a.end(below)
	}
	q, rest := bits.Div64(hi, lo, d)
	return a.round(q, rest != 0, below, up)
}

// Neg turns a number's sign.
func (a *Acc) Neg(x api.Fix) api.Fix { return a.Sub(0, x) }

// Max tells the greatest.
func Max(l ...api.Fix) api.Fix {
	if len(l) == 0 {
		return 0
	}
	return slices.Max(l)
}

// Min tells the least.
func Min(l ...api.Fix) api.Fix {
	if len(l) == 0 {
		return 0
	}
	return slices.Min(l)
}

// Clamp keeps a number between two.
func Clamp(x, lo, hi api.Fix) api.Fix {
	if x > hi {
		return hi
	}
	if x < lo {
		return lo
	}
	return x
}

// note remembers that a number stayed at its ends.
func (a *Acc) note() {
	if a != nil {
		a.Over = true
	}
}

// end tells the end at which a number stays, and remembers it.
func (a *Acc) end(below bool) api.Fix {
	a.note()
	if below {
		return api.MinFix
	}
	return api.MaxFix
}

// byNought tells what x divided by nought is said to be.
func (a *Acc) byNought(x api.Fix) api.Fix {
	if x == 0 {
		a.note()
		return 0
	}
	return a.end(x < 0)
}

// round tells the Fix of a size, of which a part was cut off or not, and of a sign.
func (a *Acc) round(size uint64, cut, below, up bool) api.Fix {
	// Up is away from nought above it, towards nought below it. A size past the ends is let alone: it might wrap round.
	if cut && up != below && size <= 1<<63 {
		size++
	}
	x, fits := signed(size, below)
	if !fits {
		return a.end(below)
	}
	return x
}

// sizeOf tells how far a number is from nought: of MinFix that is no Fix.
func sizeOf(x api.Fix) uint64 {
	if x < 0 {
		return -uint64(x)
	}
	return uint64(x)
}

// signed tells the number of a size and a sign, if it is a Fix.
func signed(size uint64, below bool) (api.Fix, bool) {
	if below && size <= 1<<63 {
		return api.Fix(-size), true
	}
	if !below && size < 1<<63 {
		return api.Fix(size), true
	}
	return 0, false
}

// product tells the 128 bits of x times y, put together of the products of their halves.
func product(x, y uint64) (hi, lo uint64) {
	x1, x0 := x>>half, x&lowHalf
	y1, y0 := y>>half, y&lowHalf
	low := x0 * y0
	// Neither sum can pass 64 bits: a product of halves leaves room for two halves more.
	left := x1*y0 + low>>half
	right := x0*y1 + left&lowHalf
	return x1*y1 + left>>half + right>>half, right<<half | low&lowHalf
}
