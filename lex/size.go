package lex

import (
	"strings"

	"picket/api"
	"picket/fix"
)

const lineEnd = '\n'

// signs are all of them; of those that begin alike the longest stands first.
var signs = [...]string{"<=", ">=", "=>", "{", "}", "(", ")", "[", "]", ",", ";", ":", "=", "<", ">", "+", "-", "*"}

// measure tells the kind of the word at the beginning of s, and how many bytes it has: 0, if there is none.
func measure(s string) (kind, size int) {
	if n := nameSize(s); n > 0 {
		return api.WordName, n
	}
	if n := numberSize(s); n > 0 {
		return api.WordNumber, n
	}
	return api.WordSign, signSize(s)
}

// value tells the number of a word, if it is one, or why the word can't be.
func value(kind int, text string) (api.Fix, api.Errno) {
	switch {
	case text == "":
		return 0, api.ErrWord
	case kind == api.WordNumber:
		return fix.Parse(text)
	case kind == api.WordName && len(text) > api.MaxName:
		return 0, api.ErrLong
	}
	return 0, api.OK
}

// idleSize tells how many bytes at the beginning of s say nothing: a remark's, or blanks and line ends.
func idleSize(s string) int {
	if strings.HasPrefix(s, "#") {
		return run(s, isInLine)
	}
	return run(s, isBlank)
}

// nameSize tells how many bytes the name at the beginning of s has, however long it is.
func nameSize(s string) int {
	if s == "" || !isLetter(s[0]) {
		return 0
	}
	return run(s, isInName)
}

// numberSize tells how many bytes the number at the beginning of s has, whether it is a Fix or not.
func numberSize(s string) int {
	whole := run(s, isDigit)
	if whole == 0 {
		return 0
	}
	back, point := strings.CutPrefix(s[whole:], ".")
	part := run(back, isDigit)
	if !point || part == 0 { // a point with no digit behind it is not the number's
		return whole
	}
	return whole + 1 + part
}

// signSize tells how many bytes the sign at the beginning of s has.
func signSize(s string) int {
	for _, sign := range signs {
		if strings.HasPrefix(s, sign) {
			return len(sign)
		}
	}
	return 0
}

// run tells how many bytes at the beginning of s are all of a kind.
func run(s string, is func(byte) bool) int {
	n := 0
	for n < len(s) && is(s[n]) {
		n++
	}
	return n
}

func isBlank(c byte) bool { return c == ' ' || c == '\t' || c == '\r' || c == lineEnd }

func isInLine(c byte) bool { return c != lineEnd }

func isLetter(c byte) bool { return 'A' <= c && c <= 'Z' || 'a' <= c && c <= 'z' }

func isDigit(c byte) bool { return '0' <= c && c <= '9' }

func isInName(c byte) bool { return isLetter(c) || isDigit(c) || c == '_' }
