package wire_test

import (
	"slices"
	"strings"
	"testing"

	"picket/api"
	"picket/wire"
)

// got holds what Get tells of some bytes against a frame.
func got(t *testing.T, what, b string, want wire.Frame, size int) {
	t.Helper()
	f, n, e := wire.Get(b)
	if e != api.OK || n != size || !alike(f, want) {
		t.Errorf("%s: %s; %d, %d, not %s; %d", what, show(f), n, e, show(want), size)
	}
}

// fails holds what Get tells of some bytes against an error.
func fails(t *testing.T, what, b string, want api.Errno) {
	t.Helper()
	f, n, e := wire.Get(b)
	if e != want || n != 0 || !alike(f, wire.Frame{}) {
		t.Errorf("%s (%x): %s; %d, %d, not %d", what, b[:min(len(b), 40)], show(f), n, e, want)
	}
}

// formed holds bytes that can be those of no frame against Get, as they are and with more behind them.
func formed(t *testing.T, what, b string) {
	t.Helper()
	for _, more := range []string{"", "\x00", "\xff", "\xa5", strings.Repeat("\x00", 61000)} {
		fails(t, what, b+more, api.ErrForm)
	}
}

// behind are bytes that may stand behind a frame.
func behind() []string {
	return []string{"", "\x00", "\xa5", "more", laid(small()), strings.Repeat("\xff", 70000), strings.Repeat("\xa5\x00", 40000)}
}

// P402, P404
func TestGetOfPut(t *testing.T) {
	for _, f := range frames() {
		b := mustPut(t, f)
		for _, more := range behind() {
			got(t, "Get of Put", b+more, f, len(b))
		}
		got(t, "Get of bytes laid here", laid(f), f, len(b))
	}
}

// P402
func TestGetCut(t *testing.T) {
	for _, f := range frames() {
		b := laid(f)
		for i := range len(b) {
			if len(b) < 2000 || i < 30 || i%5000 == 0 || i > len(b)-8 {
				fails(t, "cut", b[:i], api.ErrShort)
			}
		}
	}
	fails(t, "empty", "", api.ErrShort)
}

// P402: each byte ahead of Data, whatever it is, with nothing behind it.
func TestGetAsSoon(t *testing.T) {
	b := laid(frame(1, 2, 3, "abc", 5))
	for _, c := range []struct {
		what string
		at   int
		may  func(x int) bool
	}{
		{"begin", 0, func(x int) bool { return x == 165 }},
		{"Kind", 1, func(x int) bool { return x <= 9 }},
		{"From", 2, func(x int) bool { return true }},
		{"Tick", 3, func(x int) bool { return x < 128 }},
		{"Tick's second", 4, func(x int) bool { return true }},
		{"Tick's last", 8, func(x int) bool { return true }},
		{"count", 9, func(x int) bool { return x <= 100 }},
		{"Nums", 10, func(x int) bool { return true }},
		{"length", 18, func(x int) bool { return x <= 0xea }},
	} {
		for x := range 256 {
			s := b[:c.at] + string([]byte{byte(x)})
			if c.may(x) {
				fails(t, c.what, s, api.ErrShort)
			} else {
				formed(t, c.what, s)
			}
		}
	}
}

// P402: the length of Data, whose last byte tells it where its first one does not.
func TestGetLength(t *testing.T) {
	for _, nums := range []int{0, 1, 100} {
		head := unsummed(frame(0, 0, 0, "", every(nums)...))
		b := string(head[:len(head)-2])
		for low := range 256 {
			s := b + "\xea" + string([]byte{byte(low)})
			if low <= 0x60 {
				fails(t, "length", s, api.ErrShort)
			} else {
				formed(t, "length", s)
			}
			fails(t, "a lesser length", b+"\xe9"+string([]byte{byte(low)}), api.ErrShort)
			formed(t, "a greater length", b+"\xeb"+string([]byte{byte(low)}))
		}
		for _, s := range []string{"\xea\x60", "\x80\x00", "\x7f\xff", "\x00\x04"} {
			fails(t, "Data to come", b+s, api.ErrShort)
			fails(t, "Data to come", b+s+"\xa5"+s, api.ErrShort)
		}
	}
}

// P402: a sum that is another one, as soon as its first wrong byte is there.
func TestGetSum(t *testing.T) {
	for _, f := range []wire.Frame{{}, small(), frame(9, 255, 1<<47-1, text(33000), every(100)...)} {
		b := laid(f)
		for i := len(b) - 5; i < len(b); i++ {
			for x := 1; x < 256; x++ {
				if len(b) > 1000 && x&(x-1) != 0 {
					continue
				}
				s := b[:i] + string([]byte{b[i] ^ byte(x)})
				fails(t, "sum", s, api.ErrForm)
				fails(t, "sum, with more", s+b[i+1:], api.ErrForm)
				fails(t, "sum, with much more", s+b[i+1:]+b, api.ErrForm)
			}
		}
	}
	// A right sum in fewer bytes, or behind a byte too many, is none.
	b := laid(small())
	n := len(b) - 5
	fails(t, "sum of 4 bytes", b[:n]+b[n+1:], api.ErrForm)
	fails(t, "sum of 6 bytes", b[:n]+"\x00"+b[n:], api.ErrForm)
}

// P402: bytes whose sum is right, but that can be those of no frame.
func TestGetOfWhatCanNotBe(t *testing.T) {
	good := unsummed(frame(1, 2, 3, "abc", 5))
	for _, c := range []struct {
		what string
		at   int
		to   byte
	}{{"begin", 0, 164}, {"begin", 0, 166}, {"begin", 0, 0}, {"Kind", 1, 10}, {"Kind", 1, 255}, {"Tick", 3, 128}, {"Tick", 3, 255}} {
		b := slices.Clone(good)
		b[c.at] = c.to
		fails(t, c.what, summed(b), api.ErrForm)
	}
	fails(t, "101 Nums", summed(unsummed(frame(0, 0, 0, "", every(101)...))), api.ErrForm)
	fails(t, "255 Nums", summed(unsummed(frame(0, 0, 0, "", every(255)...))), api.ErrForm)
	fails(t, "60,001 bytes", summed(unsummed(frame(0, 0, 0, text(60001)))), api.ErrForm)
	fails(t, "65,535 bytes", summed(unsummed(frame(0, 0, 0, text(65535)))), api.ErrForm)
}

// P404: bytes of which one is changed are not taken for the frame, with whatever behind them. (Of these none happens to be another frame's.)
func TestGetOfChangedBytes(t *testing.T) {
	for _, f := range []wire.Frame{{}, small(), frame(1, 2, 3, "", 5), frame(9, 255, 1<<47-1, text(40), every(3)...)} {
		b := laid(f)
		for i := range len(b) {
			for x := 1; x < 256; x++ {
				s := b[:i] + string([]byte{b[i] ^ byte(x)}) + b[i+1:]
				for _, more := range []string{"", b, strings.Repeat("\x00", 900)} {
					if g, n, e := wire.Get(s + more); e == api.OK {
						t.Errorf("byte %d, turned by %d: %s; %d", i, x, show(g), n)
					}
				}
			}
		}
	}
	f := frame(4, 5, 6, text(32768), every(100)...)
	b := laid(f)
	for i := 0; i < len(b); i += 97 {
		s := b[:i] + string([]byte{b[i] ^ byte(1+i%255)}) + b[i+1:] + strings.Repeat("\x00", 61000)
		if g, _, e := wire.Get(s); e == api.OK && wire.Same(g, f) {
			t.Errorf("byte %d", i)
		}
	}
}

// P402: each answer is of its own.
func TestGetTellsNewLists(t *testing.T) {
	b := laid(small())
	f, _, _ := wire.Get(b)
	g, _, _ := wire.Get(b)
	f.Nums[0], f.Nums[1] = 70, 80
	_ = append(f.Nums, 90)
	if !alike(g, small()) {
		t.Errorf("the other answer: %s", show(g))
	}
	got(t, "once more", b, small(), len(b))
}

// P402: whatever comes is refused or is what Put tells of it; what is refused stays so, what is short may go on.
func FuzzGet(f *testing.F) {
	b := laid(small())
	for _, s := range []string{"", "x", b, b[:9], b + "more", "\xa5\x00\xa5\x00\xa5", laid(wire.Frame{}), strings.Repeat("\xa5\x00", 30)} {
		f.Add(s)
	}
	f.Fuzz(func(t *testing.T, b string) {
		g, n, e := wire.Get(b)
		switch e {
		case api.OK:
			if again, e := wire.Put(g); e != api.OK || again != b[:n] {
				t.Errorf("Put of Get: %x, %d", again, e)
			}
		case api.ErrForm:
			formed(t, "refused", b)
		case api.ErrShort:
			for i := range len(b) {
				fails(t, "shorter yet", b[:i], api.ErrShort)
			}
		default:
			t.Errorf("error %d", e)
		}
	})
}
