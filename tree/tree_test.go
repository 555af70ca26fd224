package tree_test

import (
	"reflect"
	"strings"
	"testing"

	"picket/api"
	"picket/tree"
)

const (
	one     = api.One
	forever = api.Forever
	maxInt  = 1<<31 - 1
)

// bare tells a part of an Op, put together by hand.
func bare(op int, l ...[]api.Node) []api.Node {
	n := []api.Node{{Op: op, N: len(l)}}
	for _, part := range l {
		n = append(n, part...)
	}
	return n
}

// timed tells a part with an interval.
func timed(op, from, to int, l ...[]api.Node) []api.Node {
	n := bare(op, l...)
	n[0].From, n[0].To = from, to
	return n
}

// atom tells a sum that is at most num.
func atom(num api.Fix, l ...api.Term) []api.Node {
	return []api.Node{{Op: api.OpAtom, Terms: l, Num: num}}
}

func term(name string, times api.Fix) api.Term { return api.Term{Name: name, Times: times} }

// below tells the atom: a is at most so many.
func below(name string, num int) []api.Node { return atom(num*one, term(name, one)) }

func yes() []api.Node { return bare(api.OpTrue) }

func no() []api.Node { return bare(api.OpFalse) }

func not(n []api.Node) []api.Node { return bare(api.OpNot, n) }

// nested tells true within so many others.
func nested(n int) []api.Node {
	l := yes()
	for range n {
		l = not(l)
	}
	return l
}

// wide tells an Op of so many parts, each of them true.
func wide(op, n int) []api.Node {
	l := []api.Node{{Op: op, N: n}}
	for range n {
		l = append(l, api.Node{Op: api.OpTrue})
	}
	return l
}

// sum tells an atom of so many terms.
func sum(n int) []api.Node {
	l := atom(0)
	for range n {
		l[0].Terms = append(l[0].Terms, term("a", one))
	}
	return l
}

// copied tells the same list, with no memory of the first one.
func copied(n []api.Node) []api.Node {
	var l []api.Node
	for _, x := range n {
		x.Terms = append([]api.Term(nil), x.Terms...)
		l = append(l, x)
	}
	return l
}

// equal holds lists against each other by their fields, without the program.
func equal(a, b []api.Node) bool {
	if len(a) != len(b) {
		return false
	}
	for i := range a {
		x, y := a[i], b[i]
		if len(x.Terms)+len(y.Terms) == 0 {
			x.Terms, y.Terms = nil, nil
		}
		if !reflect.DeepEqual(x, y) {
			return false
		}
	}
	return true
}

func reserved() []string {
	return strings.Fields("spec cells steps signal prop true false and or not prev once hist since inf")
}

// noNames are texts that are no NAME.
func noNames() []string {
	return append(reserved(), "", "9", "_a", "a b", "a ", " a", "a-b", "<=", "a#", "a\n", "\xc3\xa9", strings.Repeat("a", 25))
}

// goodNames are texts that are NAMEs, though they look like others.
func goodNames() []string {
	return []string{"a", "Z", "a_1", "True", "FALSE", "trues", "in", "info", "signals", "x9", strings.Repeat("a", 24)}
}

func checkValid(t *testing.T, what string, n []api.Node, want bool) {
	t.Helper()
	if got := tree.Valid(n); got != want {
		t.Errorf("Valid of %s: %v", what, got)
	}
}

// P601: each Op with each N.
func TestValidOfEachN(t *testing.T) {
	wants := func(op, n int) bool {
		switch op {
		case api.OpTrue, api.OpFalse, api.OpAtom:
			return n == 0
		case api.OpNot, api.OpPrev, api.OpOnce, api.OpHist:
			return n == 1
		case api.OpThen, api.OpSince:
			return n == 2
		case api.OpAnd, api.OpOr:
			return n >= 2
		}
		return false
	}
	for op := -3; op < 15; op++ {
		for n := range 6 {
			l := wide(op, n)
			if op == api.OpAtom {
				l[0].Terms = []api.Term{term("a", one)}
			}
			if got := tree.Valid(l); got != wants(op, n) {
				t.Errorf("Valid of Op %d with %d parts: %v", op, n, got)
			}
			for _, wrong := range []int{n + 1, n - 1, -1, -n, 1 << 40, api.MaxFix, api.MinFix} {
				l[0].N = wrong
				if (wrong != n) && tree.Valid(l) {
					t.Errorf("Valid of Op %d with %d parts, N %d", op, n, wrong)
				}
			}
		}
	}
	for _, op := range []int{api.MinFix, api.MaxFix, -1, 11, 256, 1 << 32} {
		checkValid(t, "an Op that is none", []api.Node{{Op: op}}, false)
	}
}

// P601: lists that are no tree, or have something behind it.
func TestValidOfLists(t *testing.T) {
	checkValid(t, "none", nil, false)
	checkValid(t, "an empty list", []api.Node{}, false)
	for _, n := range [][]api.Node{yes(), not(yes()), bare(api.OpOr, yes(), not(no()), below("a", 1)), timed(api.OpSince, 1, 2, bare(api.OpAnd, yes(), no()), bare(api.OpThen, yes(), no()))} {
		checkValid(t, "a tree", n, true)
		for i := range n {
			checkValid(t, "a tree's beginning", n[:i], false)
		}
		checkValid(t, "a tree and one behind it", append(copied(n), api.Node{}), false)
		checkValid(t, "a tree twice", append(copied(n), n...), false)
	}
	checkValid(t, "a part within that is none", bare(api.OpOr, yes(), bare(api.OpNot)), false)
	checkValid(t, "parts within that are too few", not(wide(api.OpAnd, 1)), false)
}

// P601: fields that an Op has not.
func TestValidOfFields(t *testing.T) {
	for op := range 11 {
		kids := []int{0, 0, 0, 1, 2, 2, 2, 1, 1, 1, 2}[op]
		hasInterval := op == api.OpOnce || op == api.OpHist || op == api.OpSince
		with := func(change func(*api.Node)) bool {
			l := wide(op, kids)
			if op == api.OpAtom {
				l[0].Terms = []api.Term{term("a", one)}
			}
			change(&l[0])
			return tree.Valid(l) && tree.Valid(not(l)) && tree.Valid(bare(api.OpAnd, yes(), l))
		}
		for i, c := range []struct {
			change func(*api.Node)
			want   bool
		}{
			{func(n *api.Node) {}, true},
			{func(n *api.Node) { n.Num = 1 }, op == api.OpAtom},
			{func(n *api.Node) { n.Num = -1 }, op == api.OpAtom},
			{func(n *api.Node) { n.Terms = []api.Term{{Name: "b"}} }, op == api.OpAtom},
			{func(n *api.Node) { n.Terms = []api.Term{} }, op != api.OpAtom},
			{func(n *api.Node) { n.From = 1 }, hasInterval},
			{func(n *api.Node) { n.To = 1 }, hasInterval},
			{func(n *api.Node) { n.To = forever }, hasInterval},
			{func(n *api.Node) { n.From, n.To = 5, 3 }, hasInterval},
			{func(n *api.Node) { n.From, n.To = maxInt, maxInt }, hasInterval},
			{func(n *api.Node) { n.From, n.To = maxInt, forever }, hasInterval},
			{func(n *api.Node) { n.From = maxInt + 1 }, false},
			{func(n *api.Node) { n.To = maxInt + 1 }, false},
			{func(n *api.Node) { n.From = -1 }, false},
			{func(n *api.Node) { n.From, n.To = forever, forever }, false},
			{func(n *api.Node) { n.To = -2 }, false},
			{func(n *api.Node) { n.To = api.MinFix }, false},
			{func(n *api.Node) { n.From = api.MaxFix }, false},
		} {
			if got := with(c.change); got != c.want {
				t.Errorf("Valid of Op %d with change %d: %v", op, i, got)
			}
		}
	}
}

// P601
func TestValidOfAtoms(t *testing.T) {
	for _, x := range []api.Fix{0, 1, -1, one, -one, api.MaxFix, -api.MaxFix, 2147483647 * one, 1000000000 * one, -2147483647*one - 1} {
		checkValid(t, "an atom's Num", atom(x, term("a", one)), true)
		checkValid(t, "an atom's Times", atom(0, term("a", one), term("b", x)), true)
	}
	checkValid(t, "a Num of MinFix", atom(api.MinFix, term("a", one)), false)
	checkValid(t, "a Times of MinFix", atom(0, term("a", api.MinFix)), false)
	checkValid(t, "a second Times of MinFix", atom(0, term("a", one), term("b", api.MinFix)), false)
	for _, s := range goodNames() {
		checkValid(t, "an atom of "+s, atom(0, term(s, one)), true)
	}
	for _, s := range noNames() {
		checkValid(t, "an atom of "+s, atom(0, term(s, one)), false)
		checkValid(t, "an atom whose second one is "+s, atom(0, term("a", one), term(s, one)), false)
	}
	checkValid(t, "an atom of one name twice", atom(0, term("a", one), term("a", one)), true)
	for _, n := range []int{0, 17, 18, 1000} {
		checkValid(t, "too few or too many terms", sum(n), false)
		checkValid(t, "too few or too many terms within", not(sum(n)), false)
	}
	for _, n := range []int{1, 2, 15, 16} {
		checkValid(t, "1 to 16 terms", sum(n), true)
	}
}

// P601
func TestValidOfMany(t *testing.T) {
	checkValid(t, "300 parts", wide(api.OpOr, 299), true)
	checkValid(t, "301 parts", wide(api.OpOr, 300), false)
	checkValid(t, "300 parts in several", bare(api.OpOr, wide(api.OpAnd, 200), wide(api.OpAnd, 97)), true)
	checkValid(t, "301 parts in several", bare(api.OpOr, wide(api.OpAnd, 200), wide(api.OpAnd, 98)), false)
	checkValid(t, "a great many parts", wide(api.OpAnd, 100000), false)
	checkValid(t, "a part within 23", nested(23), true)
	checkValid(t, "a part within 24", nested(24), false)
	checkValid(t, "a part within 25", nested(25), false)
	checkValid(t, "a part within 100000", append(bareNots(100000), api.Node{}), false)
	checkValid(t, "a part that is not the last one within 23", bare(api.OpAnd, nested(22), yes()), true)
	checkValid(t, "a part that is not the last one within 24", bare(api.OpAnd, nested(23), yes()), false)
	checkValid(t, "a last part within 23", bare(api.OpAnd, yes(), yes(), nested(22)), true)
	checkValid(t, "a last part within 24", bare(api.OpAnd, yes(), yes(), nested(23)), false)
}

func bareNots(n int) []api.Node {
	l := make([]api.Node, n)
	for i := range l {
		l[i] = api.Node{Op: api.OpNot, N: 1}
	}
	return l
}

func checkKids(t *testing.T, n []api.Node, want ...[]api.Node) {
	t.Helper()
	got := tree.Kids(n)
	if len(got) != len(want) {
		t.Errorf("Kids of %v: %v, not %v", n, got, want)
		return
	}
	for i := range got {
		if !equal(got[i], want[i]) {
			t.Errorf("Kids of %v: %v, not %v", n, got, want)
		}
	}
}

// P604
func TestKids(t *testing.T) {
	a, b, c := below("a", 1), timed(api.OpOnce, 1, 2, bare(api.OpAnd, yes(), no())), bare(api.OpThen, not(no()), timed(api.OpSince, 0, forever, below("b", 2), yes()))
	checkKids(t, a)
	checkKids(t, yes())
	checkKids(t, not(a), a)
	checkKids(t, b, bare(api.OpAnd, yes(), no()))
	checkKids(t, c, not(no()), timed(api.OpSince, 0, forever, below("b", 2), yes()))
	checkKids(t, bare(api.OpOr, a, b, c), a, b, c)
	checkKids(t, bare(api.OpOr, c, b, a, a, b), c, b, a, a, b)
	checkKids(t, timed(api.OpHist, 3, 1, c), c)
	checkKids(t, wide(api.OpAnd, 3), yes(), yes(), yes())
}

// P604
func TestKidsOfWhatIsNotValid(t *testing.T) {
	for _, n := range [][]api.Node{nil, {}, append(not(yes()), yes()...), bare(api.OpNot), wide(api.OpAnd, 1), nested(24), wide(api.OpOr, 300), not(sum(17)), {{Op: api.OpNot, N: 1 << 60}, {}}, {{Op: api.OpAnd, N: -2}}, not(atom(api.MinFix, term("a", one)))} {
		checkKids(t, n)
	}
}

// P604
func TestMake(t *testing.T) {
	a, b := below("a", 1), timed(api.OpOnce, 1, 2, bare(api.OpAnd, yes(), no()))
	for _, c := range []struct{ got, want []api.Node }{
		{tree.Make(api.Node{Op: api.OpTrue}), yes()},
		{tree.Make(a[0]), a},
		{tree.Make(api.Node{Op: api.OpNot}, a), not(a)},
		{tree.Make(api.Node{Op: api.OpOr, N: 77}, a, b, a), bare(api.OpOr, a, b, a)},
		{tree.Make(api.Node{Op: api.OpAnd, N: -1}), []api.Node{{Op: api.OpAnd}}},
		{tree.Make(api.Node{Op: api.OpSince, From: 7, To: 5}, b, a), timed(api.OpSince, 7, 5, b, a)},
		{tree.Make(api.Node{Op: 99, N: 9, From: -5, To: -6, Num: api.MinFix, Terms: []api.Term{{}, {Name: "x"}}}, nil, a, []api.Node{}), append([]api.Node{{Op: 99, N: 3, From: -5, To: -6, Num: api.MinFix, Terms: []api.Term{{}, {Name: "x"}}}}, a...)},
		{tree.Make(api.Node{Op: api.OpNot}, append(copied(a), b...)), append([]api.Node{{Op: api.OpNot, N: 1}}, append(copied(a), b...)...)},
		{tree.Make(api.Node{Op: api.OpOr}, wide(api.OpOr, 500), nested(50)), bare(api.OpOr, wide(api.OpOr, 500), nested(50))},
	} {
		if !equal(c.got, c.want) {
			t.Errorf("Make: %v, not %v", c.got, c.want)
		}
	}
}

// P604: Make of Kids.
func TestMakeOfKids(t *testing.T) {
	next := strewn(1)
	for range 2000 {
		n := someTree(next, 4)
		if got := tree.Make(n[0], tree.Kids(n)...); !equal(got, n) {
			t.Errorf("Make of Kids of %v: %v", n, got)
		}
	}
}

// P604: each field in turn.
func TestSame(t *testing.T) {
	n := bare(api.OpOr, atom(3, term("a", 1), term("b", 2)), timed(api.OpOnce, 1, 2, yes()))
	if !tree.Same(n, copied(n)) || !tree.Same(nil, []api.Node{}) || !tree.Same([]api.Node{{Terms: []api.Term{}}}, []api.Node{{}}) {
		t.Errorf("Same of the same is false")
	}
	changes := []func(*api.Node){
		func(x *api.Node) { x.Op++ },
		func(x *api.Node) { x.N++ },
		func(x *api.Node) { x.From++ },
		func(x *api.Node) { x.To-- },
		func(x *api.Node) { x.Num++ },
		func(x *api.Node) { x.Terms = append(x.Terms, api.Term{}) },
	}
	for i := range n {
		for j, change := range changes {
			m := copied(n)
			change(&m[i])
			if tree.Same(n, m) || tree.Same(m, n) || !tree.Same(m, copied(m)) {
				t.Errorf("Same with change %d of node %d", j, i)
			}
		}
	}
	for j, change := range []func([]api.Term) []api.Term{
		func(l []api.Term) []api.Term { l[0].Name = "x"; return l },
		func(l []api.Term) []api.Term { l[1].Times++; return l },
		func(l []api.Term) []api.Term { l[0], l[1] = l[1], l[0]; return l },
		func(l []api.Term) []api.Term { return l[:1] },
		func(l []api.Term) []api.Term { return nil },
	} {
		m := copied(n)
		m[1].Terms = change(m[1].Terms)
		if tree.Same(n, m) || tree.Same(m, n) {
			t.Errorf("Same with change %d of the terms", j)
		}
	}
	if tree.Same(n, n[:len(n)-1]) || tree.Same(n, append(copied(n), api.Node{})) || tree.Same(nil, yes()) || tree.Same(yes(), nil) || tree.Same(yes(), no()) {
		t.Errorf("Same of others is true")
	}
}

// roomy tells the same list, with spare room in each of its lists.
func roomy(n []api.Node) []api.Node {
	l := append(make([]api.Node, 0, len(n)+9), n...)
	for i := range l {
		l[i].Terms = append(make([]api.Term, 0, len(l[i].Terms)+9), l[i].Terms...)
	}
	for i := len(l); i < cap(l); i++ {
		l[:cap(l)][i] = api.Node{Op: 55}
	}
	return l
}

// untouched tells whether roomy's list is as it was, its spare room too.
func untouched(l, n []api.Node) bool {
	for i := len(l); i < cap(l); i++ {
		if x := l[:cap(l)][i]; x.Op != 55 || x.N != 0 || x.Terms != nil {
			return false
		}
	}
	for _, x := range l {
		for i := len(x.Terms); i < cap(x.Terms); i++ {
			if x.Terms[:cap(x.Terms)][i] != (api.Term{}) {
				return false
			}
		}
	}
	return equal(l, n)
}

// spoil changes all of a list, and what room it has beside it.
func spoil(n []api.Node) {
	for _, x := range n {
		for i := range x.Terms[:cap(x.Terms)] {
			x.Terms[:cap(x.Terms)][i] = api.Term{Name: "spoilt", Times: -7}
		}
	}
	for i := range n[:cap(n)] {
		n[:cap(n)][i] = api.Node{Op: -7, N: -7}
	}
}

// What is handed in stays as it was, and what is answered is new memory.
func TestListsStayAsTheyWere(t *testing.T) {
	n := bare(api.OpAnd, atom(3, term("a", 1), term("b", 2)), timed(api.OpOnce, 1, 2, below("c", 1)), below("d", 2))
	l := roomy(n)
	kids := tree.Kids(l)
	tree.Valid(l)
	tree.Same(l, l)
	text, _ := tree.Show(l)
	if !untouched(l, n) {
		t.Errorf("a list was changed: %v", l)
	}
	spoil(kids[0])
	spoil(kids[1])
	if !untouched(l, n) || !equal(kids[2], below("d", 2)) {
		t.Errorf("Kids answers what others have: %v, %v", l, kids[2])
	}
	if again, _ := tree.Show(l); again != text {
		t.Errorf("Show: %q, not %q", again, text)
	}
}

func TestMakeLeavesListsAsTheyWere(t *testing.T) {
	top := roomy(atom(3, term("a", 1), term("b", 2)))
	a, b := roomy(below("a", 1)), roomy(bare(api.OpOr, below("b", 2), yes()))
	l := append(make([][]api.Node, 0, 5), a, b, a)
	got := tree.Make(top[0], l...)
	if l[:5][3] != nil || l[:5][4] != nil || len(l) != 3 || &l[0][0] != &a[0] {
		t.Errorf("Make changed the lists' list")
	}
	want := append(copied(top), append(copied(a), append(copied(b), a...)...)...)
	want[0].N = 3
	if !equal(got, want) {
		t.Errorf("Make: %v, not %v", got, want)
	}
	got[1].Terms[0].Name = "x" // a stands in it twice
	if got[5].Terms[0].Name != "a" {
		t.Errorf("two lists of Make's answer are one")
	}
	spoil(got)
	if !untouched(top, atom(3, term("a", 1), term("b", 2))) || !untouched(a, below("a", 1)) || !untouched(b, bare(api.OpOr, below("b", 2), yes())) {
		t.Errorf("Make's answer has memory of what was handed in")
	}
}
