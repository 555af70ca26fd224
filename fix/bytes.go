package fix

import "picket/api"

// maxPut is how many bytes an int has.
const maxPut = 8

// Put tells an int as so many bytes.
func Put(v, n int) (string, api.Errno) {
	if n < 1 || n > maxPut || !fitsInto(v, n) {
		return "", api.ErrArg
	}
	b := make([]byte, n)
	for i := n - 1; i >= 0; i-- {
		b[i] = byte(v)
		v >>= 8
	}
	return string(b), api.OK
}

// Get tells the int of some bytes.
func Get(b string) (int, api.Errno) {
	if len(b) < 1 || len(b) > maxPut {
		return 0, api.ErrArg
	}
	v := int(int8(b[0])) // the first byte has the sign
	for _, c := range []byte(b[1:]) {
		v = v<<8 | int(c)
	}
	return v, api.OK
}

// Sum tells the check sum of some bytes.
func Sum(b string) int {
	x := ^uint32(0)
	for i := range len(b) {
		x ^= uint32(b[i])
		for range 8 {
			odd := x&1 == 1
			x >>= 1
			if odd {
				x ^= 3988292384
			}
		}
	}
	return int(^x)
}

// fitsInto tells whether v is the number of some n bytes, n from 1 to 8.
func fitsInto(v, n int) bool {
	signs := v >> (8*n - 1) // all bits from the highest one of n bytes on must be alike
	return signs == 0 || signs == -1
}
