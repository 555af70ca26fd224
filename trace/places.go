package trace

import "picket/api"

// Where a part holds is told by a truth value for each place, from the beginning on.

func not(p []bool) []bool {
	out := make([]bool, len(p))
	for i := range p {
		out[i] = !p[i]
	}
	return out
}

func or(p, q []bool) []bool {
	out := make([]bool, len(p))
	for i := range p {
		out[i] = p[i] || q[i]
	}
	return out
}

// before tells where p holds at the place before.
func before(p []bool) []bool {
	out := make([]bool, len(p))
	for i := range p {
		out[i] = i > 0 && p[i-1]
	}
	return out
}

// since tells where q held from to to places ago, and p at each place behind that.
func since(from, to int, p, q []bool) []bool {
	out := make([]bool, len(p))
	first := 0 // behind it p holds at each place
	last := -1 // where q held last, as long ago as from
	for i := range p {
		if !p[i] {
			first = i
		}
		if i >= from && q[i-from] {
			last = i - from
		}
		// Of all places of q the last one is nearest: if that is too far back, all are.
		out[i] = last >= first && (to == api.Forever || i-last <= to)
	}
	return out
}
