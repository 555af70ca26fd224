package ring

import "picket/api"

// Top is a ring that knows its greatest and least number.
type Top struct {
	*Ring
	greatest int // how many ahead of the last one it was pushed
	least    int
}

// NewTop makes a top.
func NewTop(n int) (*Top, api.Errno) {
	r, e := New(n)
	if e != api.OK {
		return nil, e
	}
	return &Top{Ring: r}, api.OK
}

// Push puts numbers.
func (t *Top) Push(l ...int) {
	if t == nil {
		return
	}
	t.Ring.Push(l...)
	t.greatest = t.best(t.greatest, len(l), above)
	t.least = t.best(t.least, len(l), below)
}

// Clear forgets all.
func (t *Top) Clear() {
	if t == nil {
		return
	}
	t.Ring.Clear()
	t.greatest, t.least = 0, 0
}

// Max tells the greatest.
func (t *Top) Max() (int, api.Errno) {
	if t == nil {
		return 0, api.ErrIndex
	}
	return t.Ago(t.greatest)
}

// Min tells the least.
func (t *Top) Min() (int, api.Errno) {
	if t == nil {
		return 0, api.ErrIndex
	}
	return t.Ago(t.least)
}

// best tells where the best number is, when fresh ones came behind the one that was it.
func (t *Top) best(was, fresh int, better func(x, y int) bool) int {
	was += fresh
	if was >= t.Len() {
		// It has gone, or there was none: each one that is there may be the best.
		was, fresh = 0, t.Len()
	}
	// Of those that are as good the one that was pushed last is taken: it stays the longest.
	at, x := 0, t.value(0)
	for i := range fresh {
		if y := t.value(i); better(y, x) {
			at, x = i, y
		}
	}
	if better(t.value(was), x) {
		return was
	}
	return at
}

// value tells a number of a while ago, where one is there.
func (t *Top) value(n int) int {
	x, _ := t.Ago(n)
	return x
}

func above(x, y int) bool { return x > y }

func below(x, y int) bool { return x < y }
