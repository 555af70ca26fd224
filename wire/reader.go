package wire

import "picket/api"

// mostLost is up to where lost bytes are counted.
const mostLost = 1<<63 - 1

// Reader reads frames.
type Reader struct {
	held []byte
	gone int // how many of them, from the front, were read or lost
	lost int
}

// Feed lets bytes come.
func (r *Reader) Feed(l ...string) {
	if r == nil {
		return
	}
	for _, s := range l {
		r.held = append(r.held, s...)
	}
}

// Next tells the next frame.
func (r *Reader) Next() (Frame, bool) {
	if r == nil {
		return Frame{}, false
	}
	for {
		f, n, e := read(r.held[r.gone:])
		switch e {
		case api.OK:
			r.drop(n)
			return f, true
		case api.ErrForm:
			r.drop(1)
			r.lost = min(r.lost, mostLost-1) + 1
		default:
			return Frame{}, false
		}
	}
}

// Lost tells how many bytes were lost.
func (r *Reader) Lost() int {
	if r == nil {
		return 0
	}
	return r.lost
}

// drop lets so many bytes go from the front.
func (r *Reader) drop(n int) {
	r.gone += n
	// What is left moves to new memory only when more has gone than is left: so each byte costs little, and what has gone is not kept.
	if r.gone > len(r.held)/2 {
		r.held, r.gone = append([]byte(nil), r.held[r.gone:]...), 0
	}
}
