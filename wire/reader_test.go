package wire_test

import (
	"math/rand"
	"strings"
	"testing"

	"picket/api"
	"picket/wire"
)

// next holds what Next tells against a frame, and then Lost.
func next(t *testing.T, r *wire.Reader, want wire.Frame, lost int) {
	t.Helper()
	if f, is := r.Next(); !is || !alike(f, want) {
		t.Errorf("Next: %s; %v, not %s", show(f), is, show(want))
	}
	if r.Lost() != lost {
		t.Errorf("Lost: %d, not %d", r.Lost(), lost)
	}
}

// none holds what Next tells against nothing, and then Lost.
func none(t *testing.T, r *wire.Reader, lost int) {
	t.Helper()
	for range 2 {
		if f, is := r.Next(); is || !alike(f, wire.Frame{}) {
			t.Errorf("Next: %s; %v, not none", show(f), is)
		}
		if r.Lost() != lost {
			t.Errorf("Lost: %d, not %d", r.Lost(), lost)
		}
	}
}

// P403
func TestReaderExample(t *testing.T) {
	f := frame(1, 2, 3, "", 5)
	b := laid(f)
	var r wire.Reader
	r.Feed("x")
	r.Feed(b[:7], b[7:])
	if r.Lost() != 0 {
		t.Errorf("lost ahead of Next: %d", r.Lost())
	}
	next(t, &r, f, 1)
	none(t, &r, 1)
}

// P403
func TestReaderOfNothing(t *testing.T) {
	var r wire.Reader
	none(t, &r, 0)
	r.Feed()
	r.Feed("")
	r.Feed("", "", "")
	r.Feed(nil...)
	none(t, &r, 0)
	r.Feed("", laid(small()), "")
	next(t, &r, small(), 0)
	r.Feed("")
	none(t, &r, 0)
}

// P403
func TestReaderNil(t *testing.T) {
	var r *wire.Reader
	none(t, r, 0)
	r.Feed()
	r.Feed("x", laid(small()))
	none(t, r, 0)
}

// P403: two readers have nothing in common.
func TestReadersApart(t *testing.T) {
	var r, q wire.Reader
	r.Feed("xx", laid(small()))
	q.Feed("y")
	none(t, &q, 1)
	next(t, &r, small(), 2)
	none(t, &q, 1)
}

// P403: what is lost ahead of frames, between them and behind them.
func TestReaderLost(t *testing.T) {
	a, b := small(), frame(7, 8, 9, "")
	var r wire.Reader
	r.Feed("ab\xa5"+laid(a), "\xa5\x0b", laid(b)+laid(a)+"xyz")
	next(t, &r, a, 3)
	next(t, &r, b, 5)
	next(t, &r, a, 5)
	none(t, &r, 8)
	r.Feed("\xa5")
	none(t, &r, 8)
	r.Feed("\x09")
	none(t, &r, 8)
	r.Feed("\x00\x80") // a Tick below 0: all four go, but the last three only as none of them begins a frame
	none(t, &r, 12)
	r.Feed(laid(b))
	next(t, &r, b, 12)
	none(t, &r, 12)
}

// P403: one byte is lost where a sum is another one, and not all of that frame: another one may stand within it.
func TestReaderFrameWithinAnother(t *testing.T) {
	in := laid(small())
	out := []byte(laid(frame(4, 5, 6, "ahead"+in+"behind")))
	var r wire.Reader
	r.Feed(string(out), in)
	next(t, &r, frame(4, 5, 6, "ahead"+in+"behind"), 0)
	next(t, &r, small(), 0)
	out[len(out)-1] ^= 1
	r.Feed(string(out), in)
	next(t, &r, small(), 12+len("ahead"))
	next(t, &r, small(), len(out)-len(in))
	none(t, &r, len(out)-len(in))
}

// P403: what may yet be a frame is waited for, whatever stands behind it.
func TestReaderWaits(t *testing.T) {
	head := "\xa5" + strings.Repeat("\x00", 9) + "\xea\x60"
	var r wire.Reader
	r.Feed(head, laid(small()))
	none(t, &r, 0)
	r.Feed(strings.Repeat("z", 60000-len(laid(small()))))
	none(t, &r, 0)
	r.Feed("\x00") // as the sum may begin
	none(t, &r, 0)
	r.Feed("zzzz")
	next(t, &r, small(), len(head))
	none(t, &r, len(head)+60000-len(laid(small()))+5)
}

// pieces feeds bytes so many at a time, and holds the frames that come against all.
func pieces(t *testing.T, b string, size int, want []wire.Frame, lost int) {
	t.Helper()
	var r wire.Reader
	var all []wire.Frame
	for i := 0; i < len(b); i += size {
		r.Feed(b[i:min(i+size, len(b))])
		for f, is := r.Next(); is; f, is = r.Next() {
			all = append(all, f)
		}
	}
	if len(all) != len(want) || r.Lost() != lost {
		t.Fatalf("pieces of %d: %d frames, %d lost, not %d, %d", size, len(all), r.Lost(), len(want), lost)
	}
	for i := range all {
		if !alike(all[i], want[i]) {
			t.Errorf("pieces of %d: frame %d: %s", size, i, show(all[i]))
		}
	}
}

// P403, P404
func TestReaderPieces(t *testing.T) {
	b := ""
	for _, f := range frames() {
		b += laid(f)
	}
	for _, size := range []int{1, 2, 3, 24, 25, 26, 1000, 60816, 60817, 60818, len(b)} {
		pieces(t, b, size, frames(), 0)
	}
	junk := "lost\xa5\xa5\x0a"
	b = junk
	var want []wire.Frame
	for _, f := range frames()[:20] {
		b += laid(f) + junk
		want = append(want, f)
	}
	for size := 1; size < 120; size++ {
		pieces(t, b, size, want, len(junk)*21)
	}
}

// P403, P404: cut at each two places.
func TestReaderCut(t *testing.T) {
	a, c := small(), frame(1, 2, 3, "", 5)
	b := "x" + laid(a) + "y" + laid(c)
	for i := range len(b) + 1 {
		for j := i; j <= len(b); j++ {
			var r wire.Reader
			r.Feed(b[:i], b[i:j], b[j:])
			next(t, &r, a, 1)
			next(t, &r, c, 2)
			none(t, &r, 2)
		}
	}
}

// P403: bytes that come while frames are waiting stand behind them.
func TestReaderFedAhead(t *testing.T) {
	var r wire.Reader
	for i := range 300 {
		r.Feed(laid(frame(1, 2, 2*i, text(i))), "-"+laid(frame(3, 4, 2*i+1, "")))
		if i%2 == 0 {
			next(t, &r, frame(1, 2, i, text(i/2)), i/2)
		} else {
			next(t, &r, frame(3, 4, i, ""), (i+1)/2)
		}
	}
	for i := 300; i < 600; i += 2 {
		next(t, &r, frame(1, 2, i, text(i/2)), i/2)
		next(t, &r, frame(3, 4, i+1, ""), i/2+1)
	}
	none(t, &r, 300)
}

// model reads as the document says it, word by word.
type model struct {
	rest string
	lost int
}

func (m *model) next() (wire.Frame, bool) {
	for {
		f, n, e := wire.Get(m.rest)
		switch e {
		case api.ErrForm:
			m.rest = m.rest[1:]
			m.lost++
		case api.ErrShort:
			return wire.Frame{}, false
		default:
			m.rest = m.rest[n:]
			return f, true
		}
	}
}

// scrap tells bytes of a frame, changed, cut or whole, or others.
func scrap(rnd *rand.Rand) string {
	b := []byte(laid(frame(rnd.Intn(10), rnd.Intn(256), rnd.Intn(1<<47), text(rnd.Intn(40)), every(rnd.Intn(4))...)))
	switch rnd.Intn(4) {
	case 0:
		b[rnd.Intn(len(b))] = byte(rnd.Int())
	case 1:
		b = b[:rnd.Intn(len(b))]
	case 2:
		b = append([]byte("\xa5\x00\x00")[:rnd.Intn(4)], byte(rnd.Int()))
	}
	return string(b)
}

// P403: Feed and Next in any order.
func TestReaderAsItIsSaid(t *testing.T) {
	rnd := rand.New(rand.NewSource(4))
	for range 300 {
		var r wire.Reader
		var m model
		for range 60 {
			l := make([]string, rnd.Intn(4))
			for i := range l {
				l[i] = scrap(rnd)
			}
			r.Feed(l...)
			m.rest += strings.Join(l, "")
			for range rnd.Intn(5) {
				f, is := r.Next()
				g, want := m.next()
				if is != want || !alike(f, g) || r.Lost() != m.lost {
					t.Fatalf("%s; %v, %d lost, not %s; %v, %d", show(f), is, r.Lost(), show(g), want, m.lost)
				}
			}
		}
	}
}

// P403: what was fed is not changed and not kept, what was told is of its own.
func TestReaderListsStay(t *testing.T) {
	a := laid(small())
	room := []string{a, "x", a, "spare"}
	var r wire.Reader
	r.Feed(room[:3]...)
	if room[0] != a || room[1] != "x" || room[2] != a || room[3] != "spare" {
		t.Errorf("the list: %q", room)
	}
	room[0], room[1], room[2] = "", "", ""
	f, _ := r.Next()
	f.Nums[0], f.Nums[1] = 70, 80
	f.Data = ""
	g, _ := r.Next()
	r.Feed(strings.Repeat("\xff", 1000))
	none(t, &r, 1001)
	if !alike(g, small()) || r.Lost() != 1001 {
		t.Errorf("the second frame: %s; %d lost", show(g), r.Lost())
	}
}

// P403: much that is lost, or read, a byte at a time, takes no long time.
func TestReaderMuch(t *testing.T) {
	const n = 1 << 20
	var r wire.Reader
	r.Feed(strings.Repeat("\xa5", n), laid(small()))
	next(t, &r, small(), n)
	for range n {
		r.Feed("y")
	}
	r.Feed(strings.Repeat(laid(frame(0, 0, 0, "")), n/17))
	next(t, &r, frame(0, 0, 0, ""), 2*n)
	for range n/17 - 1 {
		next(t, &r, frame(0, 0, 0, ""), 2*n)
	}
	none(t, &r, 2*n)
}
