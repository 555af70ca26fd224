package ring

import "picket/api"

// Count counts up to an end.
type Count struct{ most, now int }

// NewCount makes a counter.
func NewCount(most int) (*Count, api.Errno) {
	if most < 0 {
		return nil, api.ErrArg
	}
	return &Count{most: most}, api.OK
}

// Up counts.
func (c *Count) Up(by ...int) int {
	if c == nil {
		return 0
	}
	if len(by) == 0 {
		return c.Up(1)
	}
	for _, x := range by {
		// What is left to the end is added at most: a sum may be no int.
		c.now += min(max(x, 0), c.most-c.now)
	}
	return c.now
}

// Zero begins anew.
func (c *Count) Zero() {
	if c != nil {
		c.now = 0
	}
}

// Now tells the count.
func (c *Count) Now() int {
	if c == nil {
		return 0
	}
	return c.now
}
