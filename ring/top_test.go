package ring_test

import (
	"slices"
	"testing"

	"picket/api"
	"picket/ring"
)

func newTop(t *testing.T, n int) *ring.Top {
	t.Helper()
	x, e := ring.NewTop(n)
	if x == nil || e != api.OK {
		t.Fatalf("NewTop(%d): %v, %d", n, x, e)
	}
	return x
}

// ends holds the greatest and the least number against those that should be there.
func ends(t *testing.T, what string, x *ring.Top, want []int) {
	t.Helper()
	most, e := x.Max()
	least, f := x.Min()
	if len(want) == 0 {
		if most != 0 || e != api.ErrIndex || least != 0 || f != api.ErrIndex {
			t.Errorf("%s: Max %d, %d, Min %d, %d, not ErrIndex", what, most, e, least, f)
		}
		return
	}
	if e != api.OK || f != api.OK || most != slices.Max(want) || least != slices.Min(want) {
		t.Errorf("%s: Max %d, %d, Min %d, %d of %v", what, most, e, least, f, want)
	}
}

// is holds a top against the numbers that should be there, by all that it tells.
func is(t *testing.T, what string, x *ring.Top, n int, want []int) {
	t.Helper()
	holds(t, what, x, n, want)
	ends(t, what, x, want)
}

// P302
func TestNewTop(t *testing.T) {
	for _, n := range []int{leastInt, -1, 0, 2001, greatestInt} {
		if x, e := ring.NewTop(n); x != nil || e != api.ErrArg {
			t.Errorf("NewTop(%d): %v, %d, not ErrArg", n, x, e)
		}
	}
	for _, n := range []int{1, 2, 2000} {
		x := newTop(t, n)
		is(t, "a new one", x, n, nil)
		holds(t, "its ring", x.Ring, n, nil)
	}
}

// P302
func TestTopExample(t *testing.T) {
	x := newTop(t, 3)
	x.Push(9, 1, 2, 3)
	is(t, "the example", x, 3, []int{1, 2, 3})
	holds(t, "the ring of the example", x.Ring, 3, []int{1, 2, 3})
}

// runs are numbers that rise, fall, stay, come in waves and lie at the ends of an int.
func runs() [][]int {
	var up, down, same, waves []int
	for i := range 40 {
		up = append(up, i-20)
		down = append(down, 20-i)
		same = append(same, -4)
		waves = append(waves, i%7*(1-i%2*2))
	}
	return [][]int{up, down, same, waves, numbers(200), {greatestInt, leastInt, greatestInt, 0, 0, 0, 0, leastInt, 1, 1, 1, 1}}
}

// P302: the one that was the greatest or the least goes, whatever came behind it.
func TestTopOneByOne(t *testing.T) {
	for _, n := range []int{1, 2, 3, 5, 7, 50} {
		for _, all := range runs() {
			x := newTop(t, n)
			for i, v := range all {
				x.Push(v)
				is(t, "one by one", x, n, lastOf(all[:i+1], n))
			}
		}
	}
}

// P302: as many at once as there is room for, fewer and more, nothing too.
func TestTopAtOnce(t *testing.T) {
	for _, n := range []int{1, 2, 3, 5, 7} {
		for _, all := range runs() {
			for step := range 3 * n {
				pushAtOnce(t, n, step, all)
			}
		}
	}
}

// pushAtOnce pushes one number and then so many at once, from each place of all.
func pushAtOnce(t *testing.T, n, step int, all []int) {
	t.Helper()
	x := newTop(t, n)
	var pushed []int
	for i := range min(30, len(all)-step) {
		some := all[i : i+step]
		x.Push(all[i])
		x.Push(some...)
		pushed = append(append(pushed, all[i]), some...)
		is(t, "at once", x, n, lastOf(pushed, n))
	}
}

// P302
func TestTopOfTheGreatestSize(t *testing.T) {
	x := newTop(t, 2000)
	var all []int
	push := func(l ...int) {
		t.Helper()
		x.Push(l...)
		all = append(all, l...)
		ends(t, "2000", x, lastOf(all, 2000))
	}
	push(1000, -1000)
	push(numbers(7)...)
	push(make([]int, 1991)...)
	push(1) // the 1000 goes
	push(2) // the -1000 goes
	push(3)
	push(make([]int, 4001)...)
	holds(t, "2000", x, 2000, make([]int, 2000))
}

// P302
func TestTopClear(t *testing.T) {
	for pushed := range 9 {
		x := newTop(t, 3)
		x.Push(numbers(pushed)...)
		x.Push(100, -100)
		x.Clear()
		is(t, "cleared", x, 3, nil)
		x.Clear()
		is(t, "cleared twice", x, 3, nil)
		x.Push()
		is(t, "nothing behind it", x, 3, nil)
		x.Push(4)
		is(t, "one behind it", x, 3, []int{4})
		x.Push(5, 3)
		is(t, "more behind it", x, 3, []int{4, 5, 3})
		x.Push(4, 4)
		is(t, "so many that one goes", x, 3, []int{3, 4, 4})
	}
}

// P302: nothing grows.
func TestTopTakesNoRoom(t *testing.T) {
	x := newTop(t, 20)
	l := numbers(70)
	at := 0
	more := testing.AllocsPerRun(500, func() {
		x.Push(l...)
		x.Push(l[at%len(l)])
		x.Max()
		x.Min()
		at++
	})
	if more != 0 {
		t.Errorf("room is taken by each push: %v", more)
	}
}

// P304
func TestTopZeroAndNil(t *testing.T) {
	var zero ring.Top
	for _, x := range []*ring.Top{&zero, nil} {
		ends(t, "none", x, nil)
		x.Push()
		x.Push(1)
		x.Push(3, 2, 1)
		ends(t, "none, pushed to", x, nil)
		x.Clear()
		ends(t, "none, cleared", x, nil)
	}
	is(t, "zero, what is promoted", &zero, 0, nil)
	unused := ring.Top{Ring: &ring.Ring{}}
	unused.Push(1, 2)
	is(t, "of a zero Ring", &unused, 0, nil)
	unused.Clear()
}

// P304: whatever comes of it, nothing panics.
func TestTopOfAnotherRing(t *testing.T) {
	use := func(x *ring.Top) {
		x.Max()
		x.Min()
		x.Push(5)
		x.Push()
		x.Push(2, 9, 1, 7)
		x.Max()
		x.Min()
		x.Ago(x.Len() - 1)
	}
	for _, n := range []int{1, 3, 6} {
		x := newTop(t, n)
		x.Push(9, 8, 7, 6, 5, 6, 7)
		x.Ring.Push(1, 2, 3, 4)
		use(x)
		x.Ring.Clear()
		use(x)
		x.Ring.Clear()
		x.Ring.Push(3)
		use(x)
		for _, m := range []int{1, 2, 10} {
			x.Ring = newRing(t, m)
			use(x)
		}
		x.Ring = newTop(t, 4).Ring
		use(x)
		x.Ring = &ring.Ring{}
		use(x)
		x.Ring = nil
		use(x)
		x.Clear()
		full := newRing(t, n)
		full.Push(numbers(9)...)
		use(&ring.Top{Ring: full})
		y := ring.Top{Ring: full}
		y.Clear()
		use(&y)
	}
}
