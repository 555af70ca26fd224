package tree

import (
	"picket/api"
	"picket/lex"
)

// maxInt is the greatest INT.
const maxInt = 1<<31 - 1

// Fits tells whether a node has the N and the fields of its Op, and no others.
func Fits(n api.Node) bool { return fitsN(n) && fitsInterval(n) && fitsAtom(n) }

func fitsN(n api.Node) bool {
	switch n.Op {
	case api.OpTrue, api.OpFalse, api.OpAtom:
		return n.N == 0
	case api.OpNot, api.OpPrev, api.OpOnce, api.OpHist:
		return n.N == 1
	case api.OpThen, api.OpSince:
		return n.N == 2
	case api.OpAnd, api.OpOr:
		return n.N >= 2
	}
	return false
}

func fitsInterval(n api.Node) bool {
	switch n.Op {
	case api.OpOnce, api.OpHist, api.OpSince:
		return isInt(n.From) && (isInt(n.To) || n.To == api.Forever)
	}
	return n.From == 0 && n.To == 0
}

func fitsAtom(n api.Node) bool {
	if n.Op != api.OpAtom {
		return len(n.Terms) == 0 && n.Num == 0
	}
	if len(n.Terms) < 1 || len(n.Terms) > api.MaxSignals {
		return false
	}
	for _, t := range n.Terms {
		if !isName(t.Name) || !isNum(t.Times) {
			return false
		}
	}
	return isNum(n.Num)
}

func isInt(v int) bool { return 0 <= v && v <= maxInt }

// isNum tells whether a text says that number. MinFix is the one whose turned sign is no Fix; none has more than 10 digits ahead of the point.
func isNum(x api.Fix) bool { return x != api.MinFix }

// isName tells whether it is a NAME.
func isName(s string) bool { return lex.IsName(s) && !isReserved(s) }

func isReserved(s string) bool {
	switch s {
	case "spec", "cells", "steps", "signal", "prop", "true", "false", "and", "or", "not", "prev", "once", "hist", "since", "inf":
		return true
	}
	return false
}
