package gen

import "picket/api"

// maxInt is the greatest INT of a text.
const maxInt = 1<<31 - 1

// Cells tells how many cells instructions take.
func Cells(l ...api.Code) int {
	count := 0
	for _, c := range l {
		if room := Room(c); room > 0 && 0 <= c.A && c.A <= maxInt+1 {
			count = max(count, c.A+room)
		}
	}
	return count
}

// Room tells how many cells an instruction takes, wherever they are: none, if it is not of those that do, or its interval is none.
func Room(c api.Code) int {
	switch c.Do {
	case api.DoPrev:
		return 1
	case api.DoSince:
		return window(c.From, c.To)
	}
	return 0
}

// window tells how many distances back an interval has to be remembered at; the last one of those without an end is for all that are farther, too.
func window(from, to int) int {
	switch {
	case from < 0 || from > maxInt || to > maxInt:
		return 0
	case to == api.Forever:
		return from + 1
	case to < from:
		return 0
	}
	return to + 1
}

// Stack tells how many values stand on the stack at once.
func Stack(l ...api.Code) int {
	stand, most := 0, 0
	for _, c := range l {
		takes, puts, is := moves(c)
		if !is || stand < takes {
			return -1
		}
		stand += puts - takes
		most = max(most, stand)
	}
	return most
}

// moves tells how many values an instruction takes and puts, and whether it can be.
func moves(c api.Code) (int, int, bool) {
	switch c.Do {
	case api.DoTrue, api.DoFalse, api.DoAtom:
		return 0, 1, true
	case api.DoNot, api.DoPrev:
		return 1, 1, true
	case api.DoAnd, api.DoOr:
		return c.A, 1, c.A >= 2
	case api.DoSince:
		return 2, 1, true
	case api.DoTell:
		return 1, 0, true
	}
	return 0, 0, false
}
