package wire

import (
	"bytes"

	"picket/api"
	"picket/fix"
)

// Get tells the frame at the beginning of some bytes, and its length.
func Get(b string) (Frame, int, api.Errno) {
	// What stands behind the longest frame is never looked at.
	return read([]byte(b[:min(len(b), maxSize)]))
}

// read is Get of bytes as a reader holds them: to make a string of all that is left, at each byte that is lost, would take too long.
func read(b []byte) (Frame, int, api.Errno) {
	count, long, e := lengths(b)
	if e != api.OK {
		return Frame{}, 0, e
	}
	dataAt := numsAt + count*numSize + longSize
	sumAt := dataAt + long
	if e := checkSum(b, sumAt); e != api.OK {
		return Frame{}, 0, e
	}
	f := Frame{
		Head: Head{Kind: int(b[kindAt]), From: int(b[fromAt]), Tick: number(b, tickAt, tickSize)},
		Nums: make([]api.Fix, count),
		Data: string(b[dataAt:sumAt]),
	}
	for i := range f.Nums {
		f.Nums[i] = number(b, numsAt+i*numSize, numSize)
	}
	return f, sumAt + sumSize, api.OK
}

// lengths tells how many Nums, and how many bytes of Data, the frame has with which some bytes begin.
func lengths(b []byte) (count, long int, e api.Errno) {
	// Of Tick and of Data's length the highest byte may tell already that they are none.
	if len(b) > 0 && b[0] != begin || above(b, kindAt, maxKind) || above(b, tickAt, maxTick>>40) || above(b, countAt, maxNums) {
		return 0, 0, api.ErrForm
	}
	if len(b) < numsAt {
		return 0, 0, api.ErrShort
	}
	count = int(b[countAt])
	longAt := numsAt + count*numSize
	if above(b, longAt, maxData>>8) {
		return 0, 0, api.ErrForm
	}
	if len(b) < longAt+longSize {
		return 0, 0, api.ErrShort
	}
	long = int(uint16(number(b, longAt, longSize)))
	if long > maxData {
		return 0, 0, api.ErrForm
	}
	return count, long, api.OK
}

// above tells whether a byte is there, and greater than it may be.
func above(b []byte, at, most int) bool { return at < len(b) && int(b[at]) > most }

// checkSum holds the sum, or as much of it as is there, against the bytes ahead of it.
func checkSum(b []byte, at int) api.Errno {
	if len(b) <= at {
		// Nothing to hold against it: the bytes may come one by one, and a sum takes as long as they are many.
		return api.ErrShort
	}
	there := b[at:min(at+sumSize, len(b))]
	if !bytes.HasPrefix(lay(nil, fix.Sum(string(b[:at])), sumSize), there) {
		return api.ErrForm
	}
	if len(there) < sumSize {
		return api.ErrShort
	}
	return api.OK
}

// number tells the number of bytes that are there.
func number(b []byte, at, size int) int {
	v, _ := fix.Get(string(b[at : at+size]))
	return v
}
