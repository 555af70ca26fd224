package kinds

import (
	"slices"

	"picket/api"
	"picket/lex"
	"picket/span"
)

// Names has signals.
type Names struct{ list []api.Signal }

// NewNames makes names; with an error whose.
func NewNames(l ...api.Signal) (*Names, api.Errno, string) {
	if len(l) > api.MaxSignals {
		return nil, api.ErrLong, ""
	}
	s := &Names{}
	for _, x := range l {
		if e := s.add(x); e != api.OK {
			return nil, e, x.Name
		}
	}
	return s, api.OK, ""
}

// Find tells a signal's number.
func (s *Names) Find(name string) (int, api.Errno) {
	i := slices.IndexFunc(s.all(), func(x api.Signal) bool { return x.Name == name })
	if i < 0 {
		return 0, api.ErrName
	}
	return i, api.OK
}

// Signal tells a signal.
func (s *Names) Signal(i int) (api.Signal, api.Errno) {
	if i < 0 || i >= s.Len() {
		return api.Signal{}, api.ErrIndex
	}
	return s.list[i], api.OK
}

// Len tells how many there are.
func (s *Names) Len() int { return len(s.all()) }

// all tells the signals, in the names' own memory.
func (s *Names) all() []api.Signal {
	if s == nil {
		return nil
	}
	return s.list
}

// add puts a signal behind the others.
func (s *Names) add(x api.Signal) api.Errno {
	if !lex.IsName(x.Name) || s.has(x.Name) {
		return api.ErrName
	}
	if span.Empty(x.Span) {
		return api.ErrRange
	}
	s.list = append(s.list, x)
	return api.OK
}

func (s *Names) has(name string) bool {
	_, e := s.Find(name)
	return e == api.OK
}

// named tells the signal of a name that is known.
func (s *Names) named(name string) api.Signal {
	i, _ := s.Find(name)
	x, _ := s.Signal(i)
	return x
}
