package fix

import (
	"strconv"
	"strings"

	"picket/api"
)

const (
	maxWhole = 10 // digits ahead of the point
	maxPart  = 32 // digits behind it
)

// Text tells a number as a text.
func Text(x api.Fix) string {
	size := sizeOf(x)
	b := make([]byte, 0, 1+maxWhole+1+maxPart)
	if x < 0 {
		b = append(b, '-')
	}
	b = strconv.AppendUint(b, size>>half, 10)
	part := size & lowHalf
	if part != 0 {
		b = append(b, '.')
	}
	// Ten is even, so each digit leaves one bit less behind the point: this ends after 32.
	for part != 0 {
		part *= 10
		b = append(b, '0'+byte(part>>half))
		part &= lowHalf
	}
	return string(b)
}

// Parse tells the number of a text.
func Parse(s string) (api.Fix, api.Errno) {
	digits, below := strings.CutPrefix(s, "-")
	front, back, point := strings.Cut(digits, ".")
	whole, e := Number(front)
	if e != api.OK {
		return 0, e
	}
	if point && !isDigits(back, maxPart) {
		return 0, api.ErrNumber
	}
	part, exact := binary(back)
	if !exact || whole > 1<<(half-1) { // a greater one would not stand ahead of the part in 64 bits
		return 0, api.ErrOver
	}
	x, fits := signed(uint64(whole)<<half|part, below)
	if !fits {
		return 0, api.ErrOver
	}
	return x, api.OK
}

// Compare tells the order of bytes.
func Compare(a, b string) int { return strings.Compare(a, b) }

// Digits tells an int in digits.
func Digits(v int) string { return strconv.Itoa(v) }

// Number tells the int of digits.
func Number(s string) (int, api.Errno) {
	if !isDigits(s, maxWhole) || s[0] == '0' && len(s) > 1 {
		return 0, api.ErrNumber
	}
	v := 0
	for _, c := range []byte(s) {
		v = v*10 + int(c-'0')
	}
	return v, api.OK
}

// isDigits tells whether s is 1 to most decimal digits.
func isDigits(s string, most int) bool {
	if len(s) < 1 || len(s) > most {
		return false
	}
	for _, c := range []byte(s) {
		if c < '0' || c > '9' {
			return false
		}
	}
	return true
}

// binary tells the 32 bits behind the point of the decimal digits behind it, and whether nothing was cut.
func binary(digits string) (uint64, bool) {
	left := []byte(digits)
	var part uint64
	for range half {
		part = part<<1 | twice(left)
	}
	for _, c := range left {
		if c != '0' {
			return 0, false
		}
	}
	return part, true
}

// twice doubles the digits behind a point where they stand, and tells what goes over to the one ahead of it.
func twice(digits []byte) uint64 {
	var over byte
	for i := len(digits) - 1; i >= 0; i-- {
		d := 2*(digits[i]-'0') + over
		digits[i], over = '0'+d%10, d/10
	}
	return uint64(over)
}
