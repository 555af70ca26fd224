package ring_test

import (
	"slices"
	"testing"

	"picket/api"
	"picket/ring"
)

const (
	greatestInt = 1<<63 - 1
	leastInt    = -1 << 63
)

func newRing(t *testing.T, n int) *ring.Ring {
	t.Helper()
	r, e := ring.New(n)
	if r == nil || e != api.OK {
		t.Fatalf("New(%d): %v, %d", n, r, e)
	}
	return r
}

// numbers are some that come and go up and down, the ends of an int among them.
func numbers(n int) []int {
	l := make([]int, n)
	for i := range l {
		l[i] = i*i*7919%23 - 11
		switch i % 41 {
		case 7:
			l[i] = greatestInt
		case 29:
			l[i] = leastInt
		}
	}
	return l
}

// lastOf tells the last n of all, or all, if there are fewer.
func lastOf(all []int, n int) []int { return all[max(0, len(all)-n):] }

// told is what both a ring and a top tell of their numbers.
type told interface {
	Ago(n int) (int, api.Errno)
	Len() int
	Size() int
}

// holds holds a ring of size n against the numbers that should be there, the last one last.
func holds(t *testing.T, what string, r told, n int, want []int) {
	t.Helper()
	if r.Len() != len(want) || r.Size() != n {
		t.Errorf("%s: Len %d, Size %d, not %d, %d", what, r.Len(), r.Size(), len(want), n)
	}
	for i := range want {
		if x, e := r.Ago(i); x != want[len(want)-1-i] || e != api.OK {
			t.Errorf("%s: Ago(%d): %d, %d, not %d", what, i, x, e, want[len(want)-1-i])
		}
	}
	for _, i := range []int{leastInt, -n, -1, len(want), len(want) + 1, n, n + 1, greatestInt} {
		if i >= 0 && i < len(want) {
			continue
		}
		if x, e := r.Ago(i); x != 0 || e != api.ErrIndex {
			t.Errorf("%s: Ago(%d): %d, %d, not ErrIndex", what, i, x, e)
		}
	}
}

// P301
func TestNew(t *testing.T) {
	for _, n := range []int{leastInt, -1, 0, 2001, greatestInt} {
		if r, e := ring.New(n); r != nil || e != api.ErrArg {
			t.Errorf("New(%d): %v, %d, not ErrArg", n, r, e)
		}
	}
	for _, n := range []int{1, 2, 1999, 2000} {
		holds(t, "a new one", newRing(t, n), n, nil)
	}
}

// P301
func TestRingExample(t *testing.T) {
	r := newRing(t, 2)
	r.Push(5, 6, 7)
	holds(t, "the example", r, 2, []int{6, 7})
}

// P301
func TestRingOneByOne(t *testing.T) {
	for _, n := range []int{1, 2, 3, 7, 2000} {
		r := newRing(t, n)
		all := numbers(2*n + 5)
		for i, x := range all {
			r.Push(x)
			if n < 10 || i%500 == 0 || i >= len(all)-2 {
				holds(t, "one by one", r, n, lastOf(all[:i+1], n))
			}
		}
	}
}

// P301: lists of every length up to more than twice what there is room for.
func TestRingAtOnce(t *testing.T) {
	for _, n := range []int{1, 2, 5} {
		for k := range 2*n + 3 {
			for before := range 2*n + 1 {
				r := newRing(t, n)
				all := numbers(before + k)
				r.Push(all[:before]...)
				r.Push(all[before:]...)
				holds(t, "at once", r, n, lastOf(all, n))
			}
		}
	}
	r := newRing(t, 2000)
	all := numbers(4500)
	r.Push(all...)
	holds(t, "4500 at once", r, 2000, lastOf(all, 2000))
}

// P301
func TestRingPushOfNothing(t *testing.T) {
	r := newRing(t, 3)
	r.Push()
	holds(t, "nothing to an empty one", r, 3, nil)
	r.Push(4, 5)
	r.Push()
	r.Push([]int{}...)
	r.Push(nil...)
	holds(t, "nothing", r, 3, []int{4, 5})
}

// P301
func TestRingClear(t *testing.T) {
	for pushed := range 9 {
		r := newRing(t, 3)
		r.Push(numbers(pushed)...)
		r.Clear()
		holds(t, "cleared", r, 3, nil)
		r.Clear()
		holds(t, "cleared twice", r, 3, nil)
		r.Push(8)
		holds(t, "one behind it", r, 3, []int{8})
		r.Push(6)
		holds(t, "two behind it", r, 3, []int{8, 6})
		r.Push(9, 0, 7)
		holds(t, "more behind it", r, 3, []int{9, 0, 7})
	}
}

// P301: two rings have nothing in common.
func TestRingsApart(t *testing.T) {
	a, b := newRing(t, 2), newRing(t, 2)
	a.Push(1, 2)
	b.Push(3)
	b.Clear()
	holds(t, "the other one", a, 2, []int{1, 2})
}

// P304
func TestRingZeroAndNil(t *testing.T) {
	var zero ring.Ring
	for _, r := range []*ring.Ring{&zero, nil} {
		holds(t, "none", r, 0, nil)
		r.Push()
		r.Push(1)
		r.Push(1, 2, 3)
		holds(t, "none, pushed to", r, 0, nil)
		r.Clear()
		holds(t, "none, cleared", r, 0, nil)
	}
}

// Lists that are handed in stay as they were, their spare room too, and are not kept.
func TestListsStay(t *testing.T) {
	room := []int{5, -3, 9, 0, 7, 1}
	was := slices.Clone(room)
	r := newRing(t, 2)
	top, _ := ring.NewTop(2)
	c, _ := ring.NewCount(4)
	for n := range room {
		r.Push(room[:n]...)
		top.Push(room[:n]...)
		c.Up(room[:n]...)
	}
	r.Push(100, 200, 300)
	top.Push(100, 200, 300)
	c.Up(1)
	if !slices.Equal(room, was) {
		t.Errorf("the list: %v, not %v", room, was)
	}
	r.Push(room[:2]...)
	top.Push(room[:2]...)
	room[0], room[1] = 50, 60
	holds(t, "Ring, the list written to", r, 2, []int{5, -3})
	holds(t, "Top, the list written to", top, 2, []int{5, -3})
	ends(t, "Top, the list written to", top, []int{5, -3})
}
