package tree

import (
	"picket/api"
	"picket/fix"
	"picket/lex"
)

// Parse tells the specification of a text; with an error its line and column.
func Parse(text string) (api.Spec, api.Errno, int, int) { return read(text, (*reader).spec) }

// Formula tells the tree of a formula; with an error its line and column.
func Formula(text string) ([]api.Node, api.Errno, int, int) { return read(text, (*reader).body) }

// read tells what all words of a text say.
func read[T any](text string, say func(*reader) T) (T, api.Errno, int, int) {
	var none T
	list, e, line, col := lex.Scan(text)
	if e != api.OK {
		return none, e, line, col
	}
	r := reader{words: words{list: list}}
	said := say(&r)
	r.needEnd()
	if e, line, col = r.fault(); e != api.OK {
		return none, e, line, col
	}
	return said, api.OK, 0, 0
}

// words are a text's, and where among them it is being read; the last one is the end.
type words struct {
	list []api.Word
	at   int
}

// here tells the word that is next.
func (w *words) here() api.Word { return w.list[w.at] }

// pass goes on behind a word that is not the end, and tells its text.
func (w *words) pass() string {
	w.at++
	return w.list[w.at-1].Text
}

// take goes on behind the next word, if it is that one.
func (w *words) take(text string) bool {
	is := w.here().Text == text
	if is {
		w.pass()
	}
	return is
}

// leave goes on to the end.
func (w *words) leave() { w.at = len(w.list) - 1 }

// reader reads words as the grammar says; it has a method for each of its rules.
type reader struct {
	words
	long      bool // more than may be
	wrong     bool // a word that can't stand there
	line, col int  // where the first such word is
}

// fault tells the error of all that was read, and where it is.
func (r *reader) fault() (api.Errno, int, int) {
	if r.wrong {
		return api.ErrText, r.line, r.col
	}
	if r.long {
		return api.ErrLong, 0, 0
	}
	return api.OK, 0, 0
}

// refuse remembers where the next word is, if none was refused ahead of it. As it leaves the others unread, all rules that have begun find no more than the end, and come to theirs.
func (r *reader) refuse() {
	if !r.wrong {
		r.wrong, r.line, r.col = true, r.here().Line, r.here().Col
	}
	r.leave()
}

// need goes on behind that word.
func (r *reader) need(text string) {
	if !r.take(text) {
		r.refuse()
	}
}

func (r *reader) needEnd() {
	if r.here().Kind != api.WordEnd {
		r.refuse()
	}
}

func (r *reader) name() string {
	if !isName(r.here().Text) {
		r.refuse()
		return ""
	}
	return r.pass()
}

func (r *reader) integer() int {
	v, e := fix.Number(r.here().Text)
	if e != api.OK || !isInt(v) {
		r.refuse()
		return 0
	}
	r.pass()
	return v
}

func (r *reader) number() api.Fix {
	w := r.here()
	if w.Kind != api.WordNumber {
		r.refuse()
		return 0
	}
	r.pass()
	return w.Num
}

func (r *reader) num() api.Fix {
	if r.take("-") {
		return -r.number()
	}
	return r.number()
}

func (r *reader) spec() api.Spec {
	var s api.Spec
	r.need("spec")
	s.Name = r.name()
	r.need(";")
	s.Cells = r.limit("cells")
	s.Steps = r.limit("steps")
	for r.take("signal") {
		s.Signals = append(s.Signals, r.signal())
	}
	for r.take("prop") {
		s.Props = append(s.Props, r.prop())
	}
	if len(s.Signals) > api.MaxSignals || len(s.Props) > api.MaxProps {
		r.long = true
	}
	return s
}

func (r *reader) limit(word string) int {
	if !r.take(word) {
		return 0
	}
	v := r.integer()
	r.need(";")
	return v
}

func (r *reader) signal() api.Signal {
	var s api.Signal
	s.Name = r.name()
	r.need(":")
	s.Unit = r.name()
	r.need("[")
	s.Lo = r.num()
	r.need(",")
	s.Hi = r.num()
	r.need("]")
	r.need(";")
	return s
}

func (r *reader) prop() api.Prop {
	var p api.Prop
	p.Name = r.name()
	r.need(":")
	p.Body = r.body()
	r.need(";")
	return p
}
