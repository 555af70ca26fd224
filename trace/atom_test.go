package trace_test

import (
	"math/big"
	"slices"
	"testing"

	"picket/api"
	"picket/trace"
)

const (
	one = api.One
	top = api.MaxFix
	low = api.MinFix
)

// terms are of names and their Times by turns.
func terms(l ...any) []api.Term {
	var out []api.Term
	for i := 0; i < len(l); i += 2 {
		out = append(out, api.Term{Name: l[i].(string), Times: l[i+1].(int)})
	}
	return out
}

func atom(num api.Fix, l ...any) api.Node {
	return api.Node{Op: api.OpAtom, Num: num, Terms: terms(l...)}
}

// What an atom does.
const (
	fails = iota
	holds
	overflows
)

func checkAtom(t *testing.T, n api.Node, names []string, row []api.Fix, want int) {
	t.Helper()
	h, over := trace.Atom(n, names, row)
	if h != (want == holds) || over != (want == overflows) {
		t.Errorf("Atom(%v, %q, %d): %v, %v, not %d", n, names, row, h, over, want)
	}
}

// P901
func TestAtom(t *testing.T) {
	names := []string{"a", "b"}
	for _, x := range []struct {
		atom api.Node
		row  []api.Fix
		want int
	}{
		{atom(one, "a", one), []api.Fix{0, 0}, holds},
		{atom(one, "a", one), []api.Fix{one, 0}, holds},
		{atom(one, "a", one), []api.Fix{one + 1, 0}, fails},
		{atom(one, "a", one), []api.Fix{one - 1, 0}, holds},
		{atom(-one, "a", -one), []api.Fix{one, 0}, holds},
		{atom(-one, "a", -one), []api.Fix{one - 1, 0}, fails},
		{atom(3*one, "a", one, "b", 2*one), []api.Fix{one, one}, holds},
		{atom(3*one, "a", one, "b", 2*one), []api.Fix{one, one + 1}, fails},
		{atom(3*one, "a", 2*one, "b", -one), []api.Fix{2 * one, one}, holds},
		{atom(3*one, "a", 2*one, "b", -one), []api.Fix{2 * one, one - 1}, fails},
		{atom(0), []api.Fix{5, 5}, holds},
		{atom(-1), []api.Fix{5, 5}, fails},
		{atom(1, "a", 0), []api.Fix{top, top}, holds},
		// One signal twice.
		{atom(3*one, "a", one, "a", 2*one), []api.Fix{one, 9 * one}, holds},
		{atom(3*one-1, "a", one, "a", 2*one), []api.Fix{one, 9 * one}, fails},
		{atom(0, "a", one, "b", one, "a", -one), []api.Fix{top, 0}, holds},
		// Products are not rounded.
		{atom(0, "a", 1), []api.Fix{1, 0}, fails},
		{atom(1, "a", 1), []api.Fix{1, 0}, holds},
		{atom(0, "a", 1), []api.Fix{-1, 0}, holds},
		{atom(-1, "a", 1), []api.Fix{-1, 0}, fails},
		{atom(0, "a", 1, "b", -1), []api.Fix{one / 2, one / 2}, holds},
		{atom(0, "a", 1, "b", -1), []api.Fix{one / 2, one/2 - 1}, fails},
		{atom(1, "a", 1, "b", 1), []api.Fix{one / 2, one / 2}, holds},
		{atom(1, "a", 1, "b", 1), []api.Fix{one / 2, one/2 + 1}, fails},
		{atom(5, "a", one, "b", 1), []api.Fix{5, 1}, fails},
		{atom(5, "a", one, "b", 1), []api.Fix{5, -1}, holds},
		{atom(5, "a", one, "b", 1), []api.Fix{5, 0}, holds},
		{atom(-5, "a", one, "b", 1), []api.Fix{-5, 1}, fails},
		{atom(-5, "a", one, "b", 1), []api.Fix{-5, -1}, holds},
		{atom(top, "a", top), []api.Fix{one, 0}, holds},
		{atom(top-1, "a", top), []api.Fix{one, 0}, fails},
	} {
		checkAtom(t, x.atom, names, x.row, x.want)
	}
}

// P901: the ends of what a sum may be.
func TestAtomOverflows(t *testing.T) {
	names := []string{"a", "b"}
	for _, x := range []struct {
		atom api.Node
		row  []api.Fix
		want int
	}{
		{atom(top, "a", one), []api.Fix{top}, holds},
		{atom(top-1, "a", one), []api.Fix{top}, fails},
		{atom(top, "a", one, "b", 1), []api.Fix{top, 1}, overflows},
		{atom(top, "a", one, "b", 1), []api.Fix{top, -1}, holds},
		{atom(top-1, "a", one, "b", 1), []api.Fix{top, -1}, fails},
		{atom(top, "a", one, "b", one), []api.Fix{top, 1}, overflows},
		{atom(low, "a", one), []api.Fix{low}, holds},
		{atom(top, "a", one, "b", 1), []api.Fix{low, -1}, overflows},
		{atom(low, "a", one, "b", 1), []api.Fix{low, 1}, fails},
		{atom(low+1, "a", one, "b", 1), []api.Fix{low, 1}, holds},
		{atom(0, "a", -one), []api.Fix{low}, overflows},
		{atom(0, "a", -one), []api.Fix{top}, holds},
		{atom(top, "a", 2*one), []api.Fix{top/2 + 1}, overflows},
		{atom(top, "a", 2*one), []api.Fix{top / 2}, holds},
		{atom(top, "a", top), []api.Fix{top}, overflows},
		{atom(top, "a", low), []api.Fix{low}, overflows},
		{atom(top, "a", low), []api.Fix{top}, overflows},
		// What is far past the ends comes back.
		{atom(0, "a", top, "b", -top), []api.Fix{top, top}, holds},
		{atom(-1, "a", top, "b", -top), []api.Fix{top, top}, fails},
		{atom(1<<31, "a", low, "b", top), []api.Fix{low, low}, holds},
		{atom(1<<31-1, "a", low, "b", top), []api.Fix{low, low}, fails},
		{atom(low, "a", low, "b", top, "a", one, "b", 1), []api.Fix{low, low}, holds},
		{atom(low, "a", low, "b", top, "a", one, "b", 2), []api.Fix{low, low}, overflows},
		{atom(one, "a", low, "b", low, "a", top, "b", top), []api.Fix{low, low}, holds},
		{atom(one-1, "a", low, "b", low, "a", top, "b", top), []api.Fix{low, low}, fails},
		{atom(0, "a", top, "b", -one), []api.Fix{one, -1}, overflows},
		{atom(top, "a", top, "b", one), []api.Fix{one, 1}, overflows},
		{atom(top, "a", top, "b", one), []api.Fix{one, 0}, holds},
		{atom(-1, "a", top, "a", top, "b", top, "b", top), []api.Fix{top, -top}, fails},
	} {
		checkAtom(t, x.atom, names, x.row, x.want)
	}
	for _, count := range []int{1, 2, 3, 4, 5, 16, 1000} {
		var up, down, both []any
		for range count {
			up, down, both = append(up, "a", low), append(down, "a", top), append(both, "a", low, "b", low)
		}
		row := []api.Fix{low}
		checkAtom(t, atom(top, up...), names, row, overflows)
		checkAtom(t, atom(top, down...), names, row, overflows)
		checkAtom(t, atom(top, append(both, "a", 1)...), names, []api.Fix{top, -top}, holds)
		checkAtom(t, atom(0, append(both, "a", 1)...), names, []api.Fix{top, -top}, fails)
		checkAtom(t, atom(0, both...), names, []api.Fix{top, -top}, holds)
		checkAtom(t, atom(-1, both...), names, []api.Fix{top, -top}, fails)
	}
}

// P901: rows and names of all lengths.
func TestAtomOfRowsAndNames(t *testing.T) {
	for _, x := range []struct {
		atom  api.Node
		names []string
		row   []api.Fix
		want  int
	}{
		{atom(0, "a", one), []string{"a"}, nil, holds},
		{atom(-1, "a", one), []string{"a"}, nil, fails},
		{atom(-1, "a", one, "b", one), []string{"a", "b"}, []api.Fix{-1}, holds},
		{atom(-2, "a", one, "b", one), []string{"a", "b"}, []api.Fix{-1}, fails},
		{atom(0, "b", one), []string{"a", "b"}, []api.Fix{5}, holds},
		{atom(0, "a", one), []string{"a"}, []api.Fix{0, 5, 6}, holds},
		{atom(0, "a", one), nil, []api.Fix{5, 6}, holds},
		{atom(-1, "a", one), nil, []api.Fix{-5, -6}, fails},
		{atom(0, "z", one, "a", one), []string{"a", "b"}, []api.Fix{0, 5}, holds},
		{atom(0, "z", one, "b", one), []string{"a", "b"}, []api.Fix{0, 5}, fails},
		{atom(0, "z", top, "z", top), []string{"a", "b"}, []api.Fix{top, top}, holds},
		{atom(5, "b", one), []string{"a", "b"}, []api.Fix{9, 5}, holds},
		{atom(5, "a", one), []string{"b", "a"}, []api.Fix{9, 5}, holds},
		{atom(5, "a", one), []string{"a", "b", "a"}, []api.Fix{5, 6, 7}, holds},
		{atom(4, "a", one), []string{"a", "b", "a"}, []api.Fix{5, 6, 3}, fails},
		{atom(0, "A", one), []string{"a"}, []api.Fix{5}, holds},
		{atom(0, "", one), []string{"a", ""}, []api.Fix{0, 5}, fails},
		{atom(0, "\xff", one), []string{"\xfe", "\xff"}, []api.Fix{0, 5}, fails},
		{atom(0, "\xff", one), []string{"\ufffd"}, []api.Fix{5}, holds},
	} {
		checkAtom(t, x.atom, x.names, x.row, x.want)
	}
}

// number tells the number of some, 0 of none.
func number(row []api.Fix, i int) api.Fix {
	if i < 0 || i >= len(row) {
		return 0
	}
	return row[i]
}

// modelAtom tells by whole numbers of any size what an atom does.
func modelAtom(n api.Node, names []string, row []api.Fix) int {
	all := new(big.Int)
	for _, x := range n.Terms {
		signal := number(row, slices.Index(names, x.Name))
		all.Add(all, new(big.Int).Mul(big.NewInt(int64(x.Times)), big.NewInt(int64(signal))))
	}
	above := func(x api.Fix) bool { return all.Cmp(new(big.Int).Lsh(big.NewInt(int64(x)), 32)) > 0 }
	below := func(x api.Fix) bool { return all.Cmp(new(big.Int).Lsh(big.NewInt(int64(x)), 32)) < 0 }
	switch {
	case above(top) || below(low):
		return overflows
	case above(n.Num):
		return fails
	}
	return holds
}

// strewn tells numbers that look like chance, and are the same each time.
func strewn(seed uint64) func(int) int {
	return func(n int) int {
		seed = seed*6364136223846793005 + 1442695040888963407
		return int(seed>>33) % n
	}
}

// someFix tells numbers of all sizes, those at edges more often.
func someFix(next func(int) int) api.Fix {
	x := next(1<<30)<<34 | next(1<<30)<<4 | next(16)
	switch next(4) {
	case 0:
		x = []api.Fix{0, 1, -1, one, -one, top, low, top - 1, low + 1, 1 << 31, 1 << 47}[next(11)]
	case 1:
		x >>= next(64)
	case 2:
		x = []api.Fix{1, -1}[next(2)] << next(64)
	}
	return x + []api.Fix{-1, 0, 0, 0, 1}[next(5)]
}

// P901: strewn atoms, those at their bounds more often.
func TestAtomOfStrewnNumbers(t *testing.T) {
	next := strewn(1)
	names := []string{"a", "b", "c", "b"}
	var seen [3]int
	for range 200000 {
		var n api.Node
		var row []api.Fix
		for range next(6) {
			row = append(row, someFix(next))
		}
		for range next(5) {
			n.Terms = append(n.Terms, api.Term{Name: []string{"a", "b", "c", "d"}[next(4)], Times: someFix(next)})
		}
		if next(2) == 0 && len(row) > 1 {
			// Most of the sum goes, so that it comes near its bounds.
			n.Terms = append(n.Terms, api.Term{Name: "a", Times: row[1]}, api.Term{Name: "b", Times: -row[0]}, api.Term{Name: "a", Times: one})
			n.Num = row[0]
		} else {
			n.Num = someFix(next)
		}
		n.Num += next(3) - 1
		want := modelAtom(n, names, row)
		checkAtom(t, n, names, row, want)
		seen[want]++
	}
	if min(seen[0], seen[1], seen[2]) < 10000 {
		t.Errorf("too few of a kind: %d", seen)
	}
}

// P901: what is handed in stays as it was.
func TestAtomLeavesLists(t *testing.T) {
	ts, names, row := terms("a", one, "b", 2, "z", 3, "s", 4), []string{"a", "b", "a", "s"}, []api.Fix{1, 2, 3, 4, 5}
	checkAtom(t, api.Node{Terms: ts[:3], Num: 9}, names[:3], row[:2], holds)
	if !slices.Equal(ts, terms("a", one, "b", 2, "z", 3, "s", 4)) || !slices.Equal(names, []string{"a", "b", "a", "s"}) || !slices.Equal(row, []api.Fix{1, 2, 3, 4, 5}) {
		t.Errorf("%v, %v, %v are not as they were", ts, names, row)
	}
}

// Packages below may ask of signals by number.
func TestJudge(t *testing.T) {
	a := api.Atom{Terms: []api.Weight{{Signal: 1, Times: one}, {Signal: 0, Times: -one}, {Signal: 2, Times: one}, {Signal: -1, Times: one}}, Num: 3}
	for _, x := range []struct {
		row  []api.Fix
		want int
	}{{[]api.Fix{1, 4}, holds}, {[]api.Fix{1, 5}, fails}, {[]api.Fix{1, 4, 1}, fails}, {[]api.Fix{1, 4, 0, 9}, holds}, {nil, holds}, {[]api.Fix{low}, overflows}} {
		h, over := trace.Judge(a, x.row...)
		if h != (x.want == holds) || over != (x.want == overflows) {
			t.Errorf("Judge of %d: %v, %v, not %d", x.row, h, over, x.want)
		}
	}
}
