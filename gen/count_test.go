package gen_test

import (
	"math"
	"slices"
	"testing"

	"picket/api"
	"picket/gen"
)

const (
	forever = api.Forever
	maxInt  = 1<<31 - 1
)

func since(a, from, to int) api.Code { return api.Code{Do: api.DoSince, A: a, From: from, To: to} }

func prev(a int) api.Code { return api.Code{Do: api.DoPrev, A: a} }

func do(op, a int) api.Code { return api.Code{Do: op, A: a} }

func checkCells(t *testing.T, want int, l ...api.Code) {
	t.Helper()
	if got := gen.Cells(l...); got != want {
		t.Errorf("Cells(%v): %d, not %d", l, got, want)
	}
}

// P1001
func TestCells(t *testing.T) {
	checkCells(t, 0)
	checkCells(t, 0, []api.Code{}...)
	checkCells(t, 6, since(3, 2, forever))
	for _, x := range []struct{ from, to, want int }{
		{0, forever, 1}, {1, forever, 2}, {2, forever, 3}, {1000, forever, 1001}, {maxInt, forever, 1 << 31},
		{0, 0, 1}, {0, 1, 2}, {0, 7, 8}, {0, maxInt, 1 << 31},
		{1, 1, 2}, {3, 3, 4}, {3, 4, 5}, {3, 9, 10}, {9, 1000, 1001}, {7, maxInt, 1 << 31}, {maxInt, maxInt, 1 << 31},
	} {
		for _, a := range []int{0, 1, 5, 20000, maxInt, 1 << 31} {
			checkCells(t, a+x.want, since(a, x.from, x.to))
		}
	}
	for _, a := range []int{0, 1, 5, 20000, maxInt, 1 << 31} {
		checkCells(t, a+1, prev(a))
		checkCells(t, a+1, api.Code{Do: api.DoPrev, A: a, From: 3, To: 9})
	}
}

// P1001: cells that overlap, stand in no order, or leave others out.
func TestCellsOfSeveral(t *testing.T) {
	checkCells(t, 5, prev(4), prev(0))
	checkCells(t, 5, prev(0), prev(4))
	checkCells(t, 5, prev(4), prev(4))
	checkCells(t, 9, since(3, 2, 5), prev(4))
	checkCells(t, 9, prev(4), since(3, 2, 5), since(0, 0, 4))
	checkCells(t, 10, since(3, 2, 5), prev(9))
	checkCells(t, 9, since(3, 2, 5), prev(8))
	checkCells(t, 101, do(api.DoTrue, 0), prev(100), do(api.DoTell, 7))
	checkCells(t, 8, since(0, 0, 7), since(2, 3, forever), since(5, 0, forever), prev(7))
	checkCells(t, 3, since(-1, 0, 90), prev(2), since(1<<31+1, 0, 0), since(50, 9, 8))
}

// P1001: what counts as no cell.
func TestCellsThatAreNone(t *testing.T) {
	for _, a := range []int{-1, -2, -maxInt, math.MinInt, 1<<31 + 1, 1 << 40, math.MaxInt, math.MaxInt - 1} {
		checkCells(t, 0, prev(a))
		checkCells(t, 0, since(a, 0, forever))
		checkCells(t, 0, since(a, 0, 0))
		checkCells(t, 0, since(a, 3, maxInt))
		checkCells(t, 3, prev(2), since(a, 3, forever), prev(a))
	}
	for _, from := range []int{-1, -2, math.MinInt, 1 << 31, 1<<31 + 1, math.MaxInt} {
		for _, to := range []int{forever, 0, 5, from, maxInt, 1 << 31, math.MaxInt} {
			checkCells(t, 0, since(3, from, to))
		}
	}
	for _, x := range []struct{ from, to int }{{1, 0}, {5, 4}, {5, 0}, {maxInt, maxInt - 1}, {0, -2}, {5, -2}, {0, math.MinInt}, {0, 1 << 31}, {5, 1 << 31}, {maxInt, 1 << 31}, {0, math.MaxInt}} {
		checkCells(t, 0, since(3, x.from, x.to))
		checkCells(t, 2, since(3, x.from, x.to), prev(1))
	}
	for _, op := range []int{api.DoTrue, api.DoFalse, api.DoAtom, api.DoNot, api.DoAnd, api.DoOr, api.DoTell, 9, 10, -1, math.MaxInt, math.MinInt} {
		for _, a := range []int{0, 1, 99, 1 << 31, math.MaxInt} {
			checkCells(t, 0, api.Code{Do: op, A: a, To: 7})
		}
	}
}

func checkStack(t *testing.T, want int, l ...api.Code) {
	t.Helper()
	if got := gen.Stack(l...); got != want {
		t.Errorf("Stack(%v): %d, not %d", l, got, want)
	}
}

var (
	yes  = do(api.DoTrue, 0)
	no   = do(api.DoFalse, 0)
	atom = do(api.DoAtom, 5)
	not  = do(api.DoNot, 0)
	tell = do(api.DoTell, 0)
)

// P1001
func TestStack(t *testing.T) {
	checkStack(t, 0)
	checkStack(t, 0, []api.Code{}...)
	for _, c := range []api.Code{yes, no, atom, do(api.DoAtom, -1), do(api.DoAtom, math.MaxInt), {Do: api.DoTrue, A: -1, From: -1, To: -9}} {
		checkStack(t, 1, c)
		checkStack(t, 1, c, not, prev(-1), tell)
		checkStack(t, 3, c, c, c)
		checkStack(t, 2, c, c, tell, tell, c)
	}
	checkStack(t, 2, atom, do(api.DoAtom, 1), prev(0), do(api.DoOr, 2), tell)
	checkStack(t, 2, yes, no, since(-1, 5, 2), tell)
	checkStack(t, 3, yes, no, atom, do(api.DoAnd, 3), not, do(api.DoTell, -7))
	checkStack(t, 3, yes, no, atom, do(api.DoOr, 2), do(api.DoOr, 2))
	checkStack(t, 3, yes, no, do(api.DoAnd, 2), yes, no, since(0, 0, forever), since(0, 0, 0), tell)
	checkStack(t, 4, yes, yes, tell, yes, yes, yes, do(api.DoAnd, 4), tell)
	// Left over.
	checkStack(t, 1, yes)
	checkStack(t, 2, yes, yes, not)
	checkStack(t, 2, yes, yes, tell)
	checkStack(t, 5, yes, yes, yes, yes, yes, do(api.DoOr, 3))
}

// P1001
func TestStackOfMany(t *testing.T) {
	l := make([]api.Code, 100000)
	for i := range l {
		l[i] = atom
	}
	for a, want := range map[int]int{2: 100000, 99999: 100000, 100000: 100000, 100001: -1} {
		if got := gen.Stack(slices.Concat(l, []api.Code{do(api.DoAnd, a), tell})...); got != want {
			t.Errorf("Stack of 100,000 values, of which %d are taken: %d, not %d", a, got, want)
		}
	}
}

// P1001: more is taken than stands there, at the beginning, in the middle, at the end.
func TestStackThatLacks(t *testing.T) {
	takers := []struct {
		code  api.Code
		takes int
	}{{not, 1}, {prev(0), 1}, {tell, 1}, {since(0, 0, forever), 2}, {do(api.DoAnd, 2), 2}, {do(api.DoOr, 2), 2}, {do(api.DoAnd, 3), 3}, {do(api.DoOr, 3), 3}, {do(api.DoOr, 9), 9}}
	told := []api.Code{yes, yes, do(api.DoOr, 2), tell}
	for _, x := range takers {
		for stands := range x.takes + 3 {
			l := append(slices.Repeat([]api.Code{atom}, stands), x.code)
			if stands >= x.takes {
				checkStack(t, stands, l...)
				checkStack(t, max(2, stands), slices.Concat(told, l)...)
				continue
			}
			checkStack(t, -1, l...)
			checkStack(t, -1, slices.Concat(l, told)...)
			checkStack(t, -1, slices.Concat(told, l)...)
			checkStack(t, -1, slices.Concat(told, l, told)...)
		}
	}
}

// P1001: instructions that are none.
func TestStackOfWhatIsNone(t *testing.T) {
	for _, op := range []int{-1, -2, math.MinInt, 9, 10, math.MaxInt} {
		checkStack(t, -1, do(op, 0))
		checkStack(t, -1, do(op, 2))
		checkStack(t, -1, yes, yes, yes, do(op, 2))
		checkStack(t, -1, yes, do(op, 0), tell)
		checkStack(t, -1, yes, tell, do(op, 0))
	}
	for _, op := range []int{api.DoAnd, api.DoOr} {
		for _, a := range []int{1, 0, -1, -2, math.MinInt, math.MaxInt, 4, 5} {
			checkStack(t, -1, yes, yes, yes, do(op, a))
			checkStack(t, -1, yes, yes, yes, do(op, a), tell)
		}
		checkStack(t, -1, do(op, 0))
		checkStack(t, -1, do(op, 1))
		checkStack(t, -1, do(op, -1))
		checkStack(t, -1, yes, do(op, 1))
		checkStack(t, 3, yes, yes, yes, do(op, 2))
		checkStack(t, 3, yes, yes, yes, do(op, 3))
	}
}

// cellsByHand marks the cells that instructions take, one by one.
func cellsByHand(l []api.Code) int {
	taken := map[int]bool{}
	for _, c := range l {
		if c.Do == api.DoPrev && c.A >= 0 {
			taken[c.A] = true
		}
		if c.Do != api.DoSince || c.A < 0 || c.From < 0 || c.To < c.From && c.To != forever {
			continue
		}
		far := c.To
		if far == forever {
			far = c.From
		}
		for d := range far + 1 {
			taken[c.A+d] = true
		}
	}
	count := 0
	for cell := range taken {
		count = max(count, cell+1)
	}
	return count
}

// stackByHand puts values on a stack, and takes them.
func stackByHand(l []api.Code) int {
	var stack []int
	most := 0
	take := func(count int) bool {
		if count > len(stack) {
			return false
		}
		stack = stack[:len(stack)-count]
		return true
	}
	for _, c := range l {
		takes := []int{0, 0, 0, 1, c.A, c.A, 1, 2, 1}
		if c.Do < 0 || c.Do >= len(takes) || (c.Do == api.DoAnd || c.Do == api.DoOr) && c.A <= 1 || !take(takes[c.Do]) {
			return -1
		}
		if c.Do != api.DoTell {
			stack = append(stack, 1)
		}
		most = max(most, len(stack))
	}
	return most
}

// P1001: strewn instructions.
func TestCountsOfStrewnInstructions(t *testing.T) {
	next := strewn(3)
	fine := 0
	for range 30000 {
		var l []api.Code
		for range next(9) {
			c := api.Code{Do: next(9), A: next(4), From: next(5), To: next(8)}
			switch next(20) {
			case 0:
				c.Do = next(12) - 1
			case 1:
				c.A = -1
			case 2:
				c.From = -1
			case 3, 4:
				c.To = forever
			case 5:
				c.To = -2
			case 6, 7, 8, 9, 10:
				c.Do = next(3)
			}
			l = append(l, c)
		}
		checkCells(t, cellsByHand(l), l...)
		want := stackByHand(l)
		checkStack(t, want, l...)
		if want > 1 {
			fine++
		}
	}
	if fine < 1000 {
		t.Errorf("only %d lists of which Stack tells something", fine)
	}
}

// P1001: the lists that are handed on stay as they were, what room they have beside them too.
func TestCountsLeaveListsAsTheyWere(t *testing.T) {
	l := append(make([]api.Code, 0, 9), yes, no, since(3, 2, 5), prev(1), tell)
	checkCells(t, 9, l...)
	checkStack(t, 2, l...)
	want := [9]api.Code{yes, no, since(3, 2, 5), prev(1), tell}
	if [9]api.Code(l[:9]) != want {
		t.Errorf("changed: %v", l[:9])
	}
}

// P1001: how many cells an instruction takes, wherever they are.
func TestRoom(t *testing.T) {
	for _, a := range []int{0, 7, -1, math.MaxInt} {
		for c, want := range map[api.Code]int{prev(a): 1, since(a, 0, forever): 1, since(a, 3, forever): 4, since(a, 3, 9): 10, since(a, 9, 3): 0, since(a, -1, forever): 0, since(a, 0, 1<<31): 0, since(a, 1<<31, forever): 0, do(api.DoAtom, a): 0, do(9, a): 0} {
			if got := gen.Room(c); got != want {
				t.Errorf("Room(%v): %d, not %d", c, got, want)
			}
		}
	}
}
