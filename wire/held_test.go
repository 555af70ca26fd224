package wire

import (
	"strings"
	"testing"
)

// P403: so many bytes can't be fed here.
func TestLostStaysAtItsMost(t *testing.T) {
	r := Reader{lost: 1<<63 - 3}
	for _, want := range []int{1<<63 - 2, 1<<63 - 1, 1<<63 - 1, 1<<63 - 1} {
		r.Feed("x")
		r.Next()
		if r.Lost() != want {
			t.Errorf("Lost: %d, not %d", r.Lost(), want)
		}
	}
}

// Bytes that were read or lost are not kept.
func TestReaderHoldsWhatIsNotRead(t *testing.T) {
	b, _ := Put(Frame{Data: strings.Repeat("x", 50000)})
	var r Reader
	for range 40 {
		r.Feed(b, "lost", b, "\xa5")
	}
	for range 80 {
		r.Next()
		if r.gone > len(r.held)/2 {
			t.Errorf("%d bytes held, of which %d have gone", len(r.held), r.gone)
		}
	}
	r.Next()
	if len(r.held) != 1 || cap(r.held) > 100 {
		t.Errorf("%d bytes held, room for %d", len(r.held), cap(r.held))
	}
	r.Feed("x")
	r.Next()
	if r.held != nil || r.gone != 0 {
		t.Errorf("%d bytes held, room for %d", len(r.held), cap(r.held))
	}
}
