package gen

import (
	"slices"

	"picket/api"
)

// sums are atoms that are found by what they say.
type sums struct {
	atoms []api.Atom
	known map[sum]int // the first one's number
}

// sum is what an atom says, in the first so many terms: a value, so that a map can hold it.
type sum struct {
	terms [api.MaxSignals]api.Weight
	count int
	num   api.Fix
}

// number tells an atom's number; one that is not there is put behind the others.
func (s *sums) number(a api.Atom) int {
	if i, is := s.known[said(a)]; is {
		return i
	}
	s.add(a)
	return len(s.atoms) - 1
}

// add puts an atom behind the others, with terms of its own.
func (s *sums) add(a api.Atom) {
	x := said(a)
	if _, is := s.known[x]; !is {
		s.known[x] = len(s.atoms)
	}
	s.atoms = append(s.atoms, api.Atom{Terms: slices.Clone(a.Terms), Num: a.Num})
}

// said tells what an atom says. One with more terms than a formula's can have is none that is looked for: its count tells it from those.
func said(a api.Atom) sum {
	x := sum{count: len(a.Terms), num: a.Num}
	copy(x.terms[:], a.Terms)
	return x
}
