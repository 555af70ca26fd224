package tree_test

import (
	"regexp"
	"strings"
	"testing"

	"picket/api"
	"picket/tree"
)

// chapter is the document's grammar, as it stands there.
const chapter = `
    spec    = "spec" NAME ";" [ "cells" INT ";" ] [ "steps" INT ";" ] { signal } { prop }
    signal  = "signal" NAME ":" NAME "[" num "," num "]" ";"
    prop    = "prop" NAME ":" formula ";"
    formula = or [ "=>" formula ]
    or      = and { "or" and }
    and     = since { "and" since }
    since   = not { "since" [ interval ] not }
    not     = "not" not | "prev" not | "once" [ interval ] not | "hist" [ interval ] not | unit
    unit    = "true" | "false" | "(" formula ")" | atom
    interval = "[" INT "," ( INT | "inf" ) "]"
    atom    = sum ( "<=" | ">=" ) num
    sum     = [ "-" ] term { ( "+" | "-" ) term }
    term    = [ NUMBER "*" ] NAME
    num     = [ "-" ] NUMBER
`

// rule is a name and one row of what it may be; a word in quotes stands for itself.
type rule struct {
	head string
	body []string
}

// grammar is a list of rules without brackets, and which names may be nothing at all.
type grammar struct {
	rules []rule
	empty map[string]bool
}

// grammarOf makes rules of the chapter's: each pair of brackets becomes a name of its own.
func grammarOf(text string) *grammar {
	g := &grammar{empty: map[string]bool{}}
	for line := range strings.Lines(strings.TrimSpace(text)) {
		l := strings.Fields(line)
		g.choices(l[0], l[2:])
	}
	for changed := true; changed; {
		changed = false
		for _, r := range g.rules {
			if !g.empty[r.head] && g.allEmpty(r.body) {
				g.empty[r.head], changed = true, true
			}
		}
	}
	return g
}

func (g *grammar) allEmpty(l []string) bool {
	for _, s := range l {
		if !g.empty[s] {
			return false
		}
	}
	return true
}

// choices reads rows with | between, up to a bracket that ends them, and tells what is left.
func (g *grammar) choices(head string, l []string) []string {
	var body []string
	for len(l) > 0 {
		word := l[0]
		l = l[1:]
		inner := head + "/" + digits(len(g.rules)) + "/" + digits(len(l))
		switch word {
		case "|":
			g.rules = append(g.rules, rule{head, body})
			body = nil
		case "[":
			g.rules = append(g.rules, rule{inner, nil})
			l = g.choices(inner, l)
			body = append(body, inner)
		case "(":
			l = g.choices(inner, l)
			body = append(body, inner)
		case "{":
			g.rules = append(g.rules, rule{inner, nil}, rule{inner, []string{inner, inner + "+"}})
			l = g.choices(inner+"+", l)
			body = append(body, inner)
		case "]", ")", "}":
			g.rules = append(g.rules, rule{head, body})
			return l
		default:
			body = append(body, word)
		}
	}
	g.rules = append(g.rules, rule{head, body})
	return nil
}

// state is a rule of which the first words were seen, from a place on.
type state struct{ rule, dot, from int }

// chart has, for each place of a text, all states that can be there.
type chart [][]state

// at tells what a state waits for; "", if it has seen all.
func (g *grammar) at(s state) string {
	if body := g.rules[s.rule].body; s.dot < len(body) {
		return body[s.dot]
	}
	return ""
}

// closed tells all states that follow from some at a chart's next place.
func (g *grammar) closed(c chart, l []state) []state {
	seen := map[state]bool{}
	var all []state
	add := func(s state) {
		if !seen[s] {
			seen[s] = true
			all = append(all, s)
		}
	}
	for _, s := range l {
		add(s)
	}
	for i := 0; i < len(all); i++ {
		s := all[i]
		want := g.at(s)
		if want != "" {
			for r := range g.rules {
				if g.rules[r].head == want {
					add(state{r, 0, len(c)})
				}
			}
			if g.empty[want] {
				add(state{s.rule, s.dot + 1, s.from})
			}
			continue
		}
		if s.from == len(c) {
			continue // of nothing at all: seen to above
		}
		for _, p := range c[s.from] {
			if g.at(p) == g.rules[s.rule].head {
				add(state{p.rule, p.dot + 1, p.from})
			}
		}
	}
	return all
}

// start tells the chart of no words.
func (g *grammar) start(root string) chart {
	var l []state
	for r := range g.rules {
		if g.rules[r].head == root {
			l = append(l, state{r, 0, 0})
		}
	}
	return chart{g.closed(nil, l)}
}

var (
	isWhole = regexp.MustCompile(`^[0-9]+$`)
	isPoint = regexp.MustCompile(`^[0-9]+\.[0-9]+$`)
	isWord  = regexp.MustCompile(`^[A-Za-z]`)
)

// kindsOf tells all that a word can be in the grammar.
func kindsOf(word string) []string {
	switch {
	case isWhole.MatchString(word):
		return []string{"INT", "NUMBER"}
	case isPoint.MatchString(word):
		return []string{"NUMBER"}
	case isWord.MatchString(word) && !strings.Contains(" "+strings.Join(reserved(), " ")+" ", " "+word+" "):
		return []string{"NAME"}
	}
	return []string{`"` + word + `"`}
}

// next tells the chart with a word more, and whether the word can stand there.
func (g *grammar) next(c chart, word string) (chart, bool) {
	var l []state
	for _, kind := range kindsOf(word) {
		for _, s := range c[len(c)-1] {
			if g.at(s) == kind {
				l = append(l, state{s.rule, s.dot + 1, s.from})
			}
		}
	}
	if len(l) == 0 {
		return nil, false
	}
	return append(c[:len(c):len(c)], g.closed(c, l)), true
}

// whole tells whether all words together are a root.
func (g *grammar) whole(c chart, root string) bool {
	for _, s := range c[len(c)-1] {
		if s.from == 0 && g.at(s) == "" && g.rules[s.rule].head == root {
			return true
		}
	}
	return false
}

func allWords() []string {
	return append(reserved(), strings.Fields("a Z_9 0 7 1.5 <= >= => { } ( ) [ ] , ; : = < > + - *")...)
}

// errorOf tells the error of Parse or of Formula.
func errorOf(root, text string) (api.Errno, int, int) {
	if root == "spec" {
		_, e, line, col := tree.Parse(text)
		return e, line, col
	}
	_, e, line, col := tree.Formula(text)
	return e, line, col
}

func checkError(t *testing.T, root, text string, e api.Errno, line, col int) {
	t.Helper()
	if f, l, c := errorOf(root, text); f != e || l != line || c != col {
		t.Errorf("%s of %q: %d at %d, %d, not %d at %d, %d", root, text, f, l, c, e, line, col)
	}
}

// checkAt holds a text that can be the beginning of one against the grammar, alone and with each word behind it; it tells the words that can stand there.
func checkAt(t *testing.T, g *grammar, root, text string, c chart) []string {
	t.Helper()
	if g.whole(c, root) {
		checkError(t, root, text, api.OK, 0, 0)
	} else {
		checkError(t, root, text, api.ErrText, 1, len(text)+1)
	}
	var can []string
	for _, word := range allWords() {
		if _, is := g.next(c, word); is {
			can = append(can, word)
			continue
		}
		checkError(t, root, text+" "+word, api.ErrText, 1, len(text)+2)
		checkError(t, root, text+"\n "+word+" ) ;", api.ErrText, 2, 2)
	}
	return can
}

// begin tells the chart of some words that can stand.
func begin(t *testing.T, g *grammar, root, text string) chart {
	c := g.start(root)
	for _, word := range strings.Fields(text) {
		var is bool
		if c, is = g.next(c, word); !is {
			t.Fatalf("the grammar does not let %s stand in %q", word, text)
		}
	}
	return c
}

// checkAll goes through all texts that begin so and have at most so many words more.
func checkAll(t *testing.T, g *grammar, root, text string, c chart, more int) {
	t.Helper()
	for _, word := range checkAt(t, g, root, text, c) {
		if more > 0 {
			longer, _ := g.next(c, word)
			checkAll(t, g, root, text+" "+word, longer, more-1)
		}
	}
}

// P602: all short beginnings of formulas, each with each word behind it.
func TestAllShortFormulas(t *testing.T) {
	g := grammarOf(chapter)
	for text, more := range map[string]int{"": 3, "true": 2, "once [ 1": 3, "true since [": 3, "( true": 3, "- 7 * a": 3, "a + a": 3, "a <=": 3, "true since true": 2, "not true and": 2, "true => true": 2} {
		checkAll(t, g, "formula", text, begin(t, g, "formula", text), more)
	}
}

// P602: all short beginnings of specifications' pieces, each with each word behind it.
func TestAllShortSpecifications(t *testing.T) {
	g := grammarOf(chapter)
	for text, more := range map[string]int{"": 3, "spec a ; cells 7 ;": 2, "spec a ; cells 7 ; steps": 3, "spec a ; steps 0 ;": 2, "spec a ; signal a": 3, "spec a ; signal a : a [ - 1.5 , - 0 ]": 3, "spec a ; signal a : a [ 0": 3, "spec a ; prop a": 3, "spec a ; prop a : true ;": 3} {
		checkAll(t, g, "spec", text, begin(t, g, "spec", text), more)
	}
}

// P602: long texts of words that can stand where they do, each with each word behind it.
func TestStrewnWords(t *testing.T) {
	g := grammarOf(chapter)
	next := strewn(7)
	for i := range 200 {
		root := []string{"formula", "spec"}[i%2]
		text, c := "", g.start(root)
		for range 25 {
			can := checkAt(t, g, root, text, c)
			if len(can) == 0 {
				break
			}
			word := can[next(len(can))]
			text += " " + word
			c, _ = g.next(c, word)
		}
	}
}
