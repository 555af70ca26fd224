package tree_test

import (
	"math/big"
	"strconv"
	"strings"
	"testing"

	"picket/api"
	"picket/tree"
)

func digits(v int) string { return strconv.Itoa(v) }

// decimal tells a Fix by fractions, with all its digits.
func decimal(x api.Fix) string {
	s := new(big.Rat).SetFrac64(int64(x), int64(one)).FloatString(32)
	return strings.TrimSuffix(strings.TrimRight(s, "0"), ".")
}

func shows(t *testing.T, n []api.Node, want string) {
	t.Helper()
	if got, e := tree.Show(n); got != want || e != api.OK {
		t.Errorf("Show(%v): %q, %d, not %q", n, got, e, want)
	}
}

func showFails(t *testing.T, n []api.Node) {
	t.Helper()
	if got, e := tree.Show(n); got != "" || e != api.ErrText {
		t.Errorf("Show(%v): %q, %d, not ErrText", n, got, e)
	}
}

// P603: each part, and each blank.
func TestShow(t *testing.T) {
	a, b := below("a", 1), below("b", 2)
	shows(t, bare(api.OpOr, a, not(timed(api.OpOnce, 0, 3, atom(-2*one, term("b", -one))))), "a <= 1 or not once[0, 3] - b <= -2")
	shows(t, yes(), "true")
	shows(t, no(), "false")
	shows(t, not(yes()), "not true")
	shows(t, bare(api.OpPrev, a), "prev a <= 1")
	shows(t, bare(api.OpAnd, a, b), "a <= 1 and b <= 2")
	shows(t, bare(api.OpOr, a, b, yes(), no()), "a <= 1 or b <= 2 or true or false")
	shows(t, bare(api.OpThen, a, b), "a <= 1 => b <= 2")
	shows(t, timed(api.OpSince, 0, forever, a, b), "a <= 1 since b <= 2")
	shows(t, timed(api.OpSince, 1, forever, a, b), "a <= 1 since[1, inf] b <= 2")
	shows(t, timed(api.OpSince, 2, 3, a, not(b)), "a <= 1 since[2, 3] not b <= 2")
	shows(t, timed(api.OpOnce, 0, forever, a), "once a <= 1")
	shows(t, timed(api.OpOnce, 0, 0, a), "once[0, 0] a <= 1")
	shows(t, timed(api.OpOnce, 5, forever, a), "once[5, inf] a <= 1")
	shows(t, timed(api.OpOnce, 5, 3, bare(api.OpOr, a, b)), "once[5, 3] (a <= 1 or b <= 2)")
	shows(t, timed(api.OpHist, 0, forever, bare(api.OpOr, a, b)), "hist (a <= 1 or b <= 2)")
	shows(t, timed(api.OpHist, maxInt, maxInt, yes()), "hist[2147483647, 2147483647] true")
	shows(t, not(not(bare(api.OpPrev, timed(api.OpHist, 2, 2, timed(api.OpOnce, 0, forever, yes()))))), "not not prev hist[2, 2] once true")
}

// P603: brackets of each Op within each other one, first and last.
func TestShowOfBrackets(t *testing.T) {
	p := map[string][]api.Node{
		"true":            yes(),
		"a <= 1":          below("a", 1),
		"not true":        not(yes()),
		"prev true":       bare(api.OpPrev, yes()),
		"once true":       timed(api.OpOnce, 0, forever, yes()),
		"hist[1, 2] true": timed(api.OpHist, 1, 2, yes()),
		"true since true": timed(api.OpSince, 0, forever, yes(), yes()),
		"true and true":   wide(api.OpAnd, 2),
		"true or true":    wide(api.OpOr, 2),
		"true => true":    bare(api.OpThen, yes(), yes()),
	}
	rank := func(text string) int {
		for i, word := range []string{"=>", "or", "and", "since"} {
			if strings.Contains(text, word) {
				return i
			}
		}
		return 4
	}
	in := func(text string, asked int) string {
		if rank(text) < asked {
			return "(" + text + ")"
		}
		return text
	}
	for text, n := range p {
		for word, op := range map[string]int{"not": api.OpNot, "prev": api.OpPrev} {
			shows(t, bare(op, n), word+" "+in(text, 4))
		}
		for word, op := range map[string]int{"once": api.OpOnce, "hist": api.OpHist} {
			shows(t, timed(op, 0, forever, n), word+" "+in(text, 4))
			shows(t, timed(op, 1, 2, n), word+"[1, 2] "+in(text, 4))
		}
		shows(t, timed(api.OpSince, 0, forever, n, no()), in(text, 3)+" since false")
		shows(t, timed(api.OpSince, 0, forever, no(), n), "false since "+in(text, 4))
		shows(t, timed(api.OpSince, 3, 4, n, n), in(text, 3)+" since[3, 4] "+in(text, 4))
		shows(t, bare(api.OpAnd, n, no(), n), in(text, 3)+" and false and "+in(text, 3))
		shows(t, bare(api.OpAnd, no(), n), "false and "+in(text, 3))
		shows(t, bare(api.OpOr, n, no(), n), in(text, 2)+" or false or "+in(text, 2))
		shows(t, bare(api.OpOr, no(), n), "false or "+in(text, 2))
		shows(t, bare(api.OpThen, n, no()), in(text, 1)+" => false")
		shows(t, bare(api.OpThen, no(), n), "false => "+text)
		shows(t, not(not(n)), "not not "+in(text, 4))
	}
	shows(t, not(bare(api.OpAnd, wide(api.OpOr, 2), not(bare(api.OpThen, yes(), no())))), "not ((true or true) and not (true => false))")
	shows(t, bare(api.OpAnd, bare(api.OpOr, bare(api.OpAnd, yes(), bare(api.OpThen, yes(), no())), no()), yes()), "(true and (true => false) or false) and true")
}

// P603
func TestShowOfAtoms(t *testing.T) {
	shows(t, atom(-5*one/4, term("a", -one), term("b", 2*one), term("c", -one/2)), "- a + 2 * b - 0.5 * c <= -1.25")
	shows(t, atom(0, term("a", one)), "a <= 0")
	shows(t, atom(0, term("a", 0)), "0 * a <= 0")
	shows(t, atom(0, term("a", 0), term("b", 0)), "0 * a + 0 * b <= 0")
	shows(t, atom(0, term("a", -2*one)), "- 2 * a <= 0")
	shows(t, atom(0, term("a", one), term("b", -one), term("a", one)), "a - b + a <= 0")
	shows(t, atom(1, term("a", 1)), "0.00000000023283064365386962890625 * a <= 0.00000000023283064365386962890625")
	shows(t, atom(-1, term("a", -1), term("b", -1)), "- 0.00000000023283064365386962890625 * a - 0.00000000023283064365386962890625 * b <= -0.00000000023283064365386962890625")
	shows(t, atom(api.MaxFix, term("a", api.MaxFix)), "2147483647.99999999976716935634613037109375 * a <= 2147483647.99999999976716935634613037109375")
	shows(t, atom(-api.MaxFix, term("a", -api.MaxFix)), "- 2147483647.99999999976716935634613037109375 * a <= -2147483647.99999999976716935634613037109375")
	shows(t, atom(2147483647*one, term("a", one+1)), "1.00000000023283064365386962890625 * a <= 2147483647")
	shows(t, sum(16), strings.Repeat("a + ", 15)+"a <= 0")
}

// P603
func TestShowOfMany(t *testing.T) {
	shows(t, nested(23), strings.Repeat("not ", 23)+"true")
	shows(t, wide(api.OpOr, 299), strings.Repeat("true or ", 298)+"true")
	long := wideAtoms(140)
	if got, e := tree.Show(long); e != api.OK || len(got) <= 65536 {
		t.Errorf("Show of a long text: %d bytes, %d", len(got), e)
	}
}

// wideAtoms tells an or of so many atoms, each of 16 terms.
func wideAtoms(n int) []api.Node {
	l := []api.Node{{Op: api.OpOr, N: n}}
	for range n {
		l = append(l, atom(1)...)
		for range 16 {
			l[len(l)-1].Terms = append(l[len(l)-1].Terms, term(strings.Repeat("a", 24), 1))
		}
	}
	return l
}

// P603
func TestShowOfWhatIsNotValid(t *testing.T) {
	for _, n := range [][]api.Node{nil, {}, append(yes(), yes()...), bare(api.OpNot), wide(api.OpAnd, 1), nested(24), wide(api.OpOr, 300), sum(0), sum(17), {{Op: 11}}, {{Op: -1}}, {{Op: api.OpNot, N: 1 << 62}, {}}, {{Op: api.OpOr, N: -1}}, timed(api.OpOnce, 0, -2, yes()), timed(api.OpNot, 0, 1, yes()), atom(api.MinFix, term("a", one)), atom(0, term("or", one))} {
		showFails(t, n)
	}
}

// full tells a specification with all that one has.
func full() api.Spec {
	return api.Spec{
		Name:    "s",
		Limits:  api.Limits{Cells: 5, Steps: 7},
		Signals: []api.Signal{signal("a", "m", 0, 10*one), signal("b", "s", -3*one/2, -2*one)},
		Props:   []api.Prop{{Name: "p", Body: below("a", 1)}, {Name: "q", Body: bare(api.OpThen, timed(api.OpHist, 0, forever, below("b", 2)), yes())}},
	}
}

func prints(t *testing.T, s api.Spec, want string) {
	t.Helper()
	if got, e := tree.Print(s); got != want || e != api.OK {
		t.Errorf("Print(%v): %q, %d, not %q", s, got, e, want)
	}
}

func printFails(t *testing.T, what string, s api.Spec, want api.Errno) {
	t.Helper()
	if got, e := tree.Print(s); got != "" || e != want {
		t.Errorf("Print of %s: %q, %d, not %d", what, short(got), e, want)
	}
}

// P603
func TestPrint(t *testing.T) {
	prints(t, full(), "spec s;\ncells 5;\nsteps 7;\nsignal a: m [0, 10];\nsignal b: s [-1.5, -2];\nprop p: a <= 1;\nprop q: hist b <= 2 => true;\n")
	prints(t, api.Spec{Name: "s"}, "spec s;\n")
	prints(t, api.Spec{Name: "s", Limits: api.Limits{Cells: maxInt}}, "spec s;\ncells 2147483647;\n")
	prints(t, api.Spec{Name: "s", Limits: api.Limits{Steps: maxInt}}, "spec s;\nsteps 2147483647;\n")
	prints(t, api.Spec{Name: "s", Limits: api.Limits{Cells: 1, Steps: 1}}, "spec s;\ncells 1;\nsteps 1;\n")
	prints(t, api.Spec{Name: "s", Signals: []api.Signal{signal("a", "m", -api.MaxFix, api.MaxFix)}}, "spec s;\nsignal a: m [-2147483647.99999999976716935634613037109375, 2147483647.99999999976716935634613037109375];\n")
	prints(t, api.Spec{Name: "s", Props: []api.Prop{{Name: "p", Body: bare(api.OpThen, yes(), bare(api.OpThen, yes(), no()))}, {Name: "p", Body: no()}}}, "spec s;\nprop p: true => true => false;\nprop p: false;\n")
}

// P603: each thing that can't be, in its turn.
func TestPrintOfWhatNoTextSays(t *testing.T) {
	for i, change := range []func(*api.Spec){
		func(s *api.Spec) { s.Cells = -1 },
		func(s *api.Spec) { s.Steps = -1 },
		func(s *api.Spec) { s.Cells = maxInt + 1 },
		func(s *api.Spec) { s.Steps = maxInt + 1 },
		func(s *api.Spec) { s.Cells = api.MinFix },
		func(s *api.Spec) { s.Steps = api.MaxFix },
		func(s *api.Spec) { s.Signals[0].Lo = api.MinFix },
		func(s *api.Spec) { s.Signals[0].Hi = api.MinFix },
		func(s *api.Spec) { s.Signals[1].Lo = api.MinFix },
		func(s *api.Spec) { s.Signals[1].Hi = api.MinFix },
		func(s *api.Spec) { s.Props[0].Body = nil },
		func(s *api.Spec) { s.Props[1].Body = append(yes(), yes()...) },
		func(s *api.Spec) { s.Props[1].Body = nested(24) },
		func(s *api.Spec) { s.Props[1].Body = sum(17) },
		func(s *api.Spec) { s.Props[1].Body = wide(api.OpOr, 300) },
		func(s *api.Spec) { s.Signals = make([]api.Signal, 17) },
		func(s *api.Spec) { s.Props = make([]api.Prop, 17) },
	} {
		s := full()
		change(&s)
		printFails(t, "change "+digits(i), s, api.ErrText)
	}
	for _, name := range noNames() {
		for i, change := range []func(*api.Spec){
			func(s *api.Spec) { s.Name = name },
			func(s *api.Spec) { s.Signals[0].Name = name },
			func(s *api.Spec) { s.Signals[1].Name = name },
			func(s *api.Spec) { s.Signals[0].Unit = name },
			func(s *api.Spec) { s.Signals[1].Unit = name },
			func(s *api.Spec) { s.Props[0].Name = name },
			func(s *api.Spec) { s.Props[1].Name = name },
		} {
			s := full()
			change(&s)
			printFails(t, "name "+name+" at "+digits(i), s, api.ErrText)
		}
	}
	printFails(t, "nothing", api.Spec{}, api.ErrText)
}

// P603: how many signals and properties there may be.
func TestPrintOfMany(t *testing.T) {
	s, text := api.Spec{Name: "s"}, "spec s;\n"
	for range 16 {
		s.Signals = append(s.Signals, signal("a", "m", 0, one))
		text += "signal a: m [0, 1];\n"
	}
	prints(t, s, text)
	for range 16 {
		s.Props = append(s.Props, api.Prop{Name: "p", Body: yes()})
		text += "prop p: true;\n"
	}
	prints(t, s, text)
	more := s
	more.Signals = append(s.Signals[:16:16], s.Signals[0])
	printFails(t, "17 signals", more, api.ErrText)
	more = s
	more.Props = append(s.Props[:16:16], s.Props[0])
	printFails(t, "17 properties", more, api.ErrText)
}

// longSpec tells a specification whose text has so many bytes, 65,000 or more.
func longSpec(size int) api.Spec {
	n := wideAtoms(60)
	text, _ := tree.Show(n)
	add := func(name int) int {
		n[0].N++
		n = append(n, below(strings.Repeat("n", name), 0)...)
		return name + len(" or  <= 0")
	}
	left := size - len("spec s;\nprop p: ;\n") - len(text)
	for left > 33 { // what is left at the end is that of a name of 1 to 24 bytes
		left -= add(min(24, left-19))
	}
	add(left - len(" or  <= 0"))
	return api.Spec{Name: "s", Props: []api.Prop{{Name: "p", Body: n}}}
}

// P603, P605: a text of MaxBytes bytes, and of one more.
func TestPrintOfLongTexts(t *testing.T) {
	for _, size := range []int{65000, 65535, 65536} {
		s := longSpec(size)
		text, e := tree.Print(s)
		if len(text) != size || e != api.OK {
			t.Errorf("Print: %d bytes, %d, not %d", len(text), e, size)
		}
		if got := specOf(t, text); !sameSpec(got, s) {
			t.Errorf("Parse of Print of %d bytes is another one", size)
		}
	}
	for _, size := range []int{65537, 65538, 66000} {
		printFails(t, "a long text", longSpec(size), api.ErrLong)
	}
	long := longSpec(65537)
	long.Cells = -1
	printFails(t, "a long text that no text says", long, api.ErrText)
	var most api.Spec
	for range 16 {
		most.Props = append(most.Props, api.Prop{Name: "p", Body: wideAtoms(299)})
	}
	most.Name = "s"
	printFails(t, "the longest text", most, api.ErrLong)
}

// What is handed in stays as it was.
func TestPrintLeavesListsAsTheyWere(t *testing.T) {
	s := full()
	for i := range s.Props {
		s.Props[i].Body = roomy(s.Props[i].Body)
	}
	s.Signals = append(make([]api.Signal, 0, 5), s.Signals...)
	s.Props = append(make([]api.Prop, 0, 5), s.Props...)
	tree.Print(s)
	if !sameSpec(s, full()) || s.Signals[:5][2] != (api.Signal{}) || s.Props[:5][2].Name != "" || s.Props[:5][2].Body != nil {
		t.Errorf("Print changed it: %v", s)
	}
	for i, p := range s.Props {
		if !untouched(p.Body, full().Props[i].Body) {
			t.Errorf("Print changed a body: %v", p.Body)
		}
	}
}
