package ring_test

import (
	"testing"

	"picket/api"
	"picket/ring"
)

func newCount(t *testing.T, most int) *ring.Count {
	t.Helper()
	c, e := ring.NewCount(most)
	if c == nil || e != api.OK {
		t.Fatalf("NewCount(%d): %v, %d", most, c, e)
	}
	if c.Now() != 0 {
		t.Fatalf("NewCount(%d): at %d", most, c.Now())
	}
	return c
}

// up holds what Up and then Now tell against what is wanted.
func up(t *testing.T, c *ring.Count, want int, by ...int) {
	t.Helper()
	if got := c.Up(by...); got != want {
		t.Errorf("Up(%v): %d, not %d", by, got, want)
	}
	if got := c.Now(); got != want {
		t.Errorf("Now behind Up(%v): %d, not %d", by, got, want)
	}
}

// P303
func TestNewCount(t *testing.T) {
	for _, most := range []int{-1, -2, leastInt} {
		if c, e := ring.NewCount(most); c != nil || e != api.ErrArg {
			t.Errorf("NewCount(%d): %v, %d, not ErrArg", most, c, e)
		}
	}
	for _, most := range []int{0, 1, 5, 2001, greatestInt} {
		newCount(t, most)
	}
}

// P303
func TestUp(t *testing.T) {
	c := newCount(t, 5)
	up(t, c, 1)
	up(t, c, 5, 3, 9)
	up(t, c, 5)
	up(t, c, 5, 1)

	c = newCount(t, 10)
	up(t, c, 2, 2)
	up(t, c, 2, 0)
	up(t, c, 2, -1)
	up(t, c, 2, leastInt, -7, 0)
	up(t, c, 6, -9, 1, leastInt, 3, 0)
	up(t, c, 7, []int{}...)
	up(t, c, 8, nil...)
	up(t, c, 10, 1, 1)
	up(t, c, 10, -4) // one that is at its most stays there
}

// P303
func TestUpToTheEnd(t *testing.T) {
	c := newCount(t, 0)
	up(t, c, 0)
	up(t, c, 0, 1, greatestInt)

	c = newCount(t, 3)
	up(t, c, 3, greatestInt, greatestInt, leastInt)

	c = newCount(t, greatestInt)
	up(t, c, greatestInt-1, greatestInt-1)
	up(t, c, greatestInt)
	up(t, c, greatestInt)
	up(t, c, greatestInt, greatestInt, greatestInt)
}

// P303
func TestZero(t *testing.T) {
	c := newCount(t, 4)
	c.Zero()
	if c.Now() != 0 {
		t.Errorf("Zero of a new one: %d", c.Now())
	}
	up(t, c, 4, 9)
	c.Zero()
	if c.Now() != 0 {
		t.Errorf("Zero: %d", c.Now())
	}
	up(t, c, 1)
	up(t, c, 4, 2, 2)
}

// P304
func TestCountZeroAndNil(t *testing.T) {
	var zero ring.Count
	for _, c := range []*ring.Count{&zero, nil} {
		up(t, c, 0)
		up(t, c, 0, 1, 2)
		up(t, c, 0, greatestInt)
		up(t, c, 0, -1)
		c.Zero()
		up(t, c, 0)
	}
}
