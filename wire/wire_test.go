package wire_test

import (
	"encoding/binary"
	"fmt"
	"hash/crc32"
	"slices"
	"strings"
	"testing"

	"picket/api"
	"picket/wire"
)

const (
	greatestInt = 1<<63 - 1
	leastInt    = -1 << 63
)

func frame(kind, from, tick int, data string, nums ...api.Fix) wire.Frame {
	return wire.Frame{Head: wire.Head{Kind: kind, From: from, Tick: tick}, Nums: nums, Data: data}
}

// small is the frame of the document's example, with some Data.
func small() wire.Frame { return frame(1, 2, 3, "a\xa5z", 5, -6) }

// every tells the numbers 0 to n - 1, spread over all bytes of a Fix, its ends among them.
func every(n int) []api.Fix {
	l := make([]api.Fix, n)
	for i := range l {
		l[i] = (i - n/2) * 0x0123456789abcdef
		switch i % 10 {
		case 3:
			l[i] = api.MinFix
		case 7:
			l[i] = api.MaxFix
		}
	}
	return l
}

// text tells so many bytes, of all kinds.
func text(n int) string {
	b := make([]byte, n)
	for i := range b {
		b[i] = byte(i*i>>3 + i*7)
	}
	return string(b)
}

// frames are some that can be put, at the edges of what may be too.
func frames() []wire.Frame {
	l := []wire.Frame{{}, small(), frame(1, 2, 3, "", 5), frame(9, 255, 1<<47-1, text(300), every(100)...)}
	for kind := range 10 {
		l = append(l, frame(kind, kind, 1<<kind, "", kind))
	}
	for _, from := range []int{0, 1, 127, 128, 165, 254, 255} {
		l = append(l, frame(0, from, 0, ""))
	}
	for _, tick := range []int{0, 1, 255, 256, 1<<32 - 1, 1 << 32, 1 << 46, 1<<47 - 2, 1<<47 - 1} {
		l = append(l, frame(0, 0, tick, ""))
	}
	for _, n := range []int{1, 2, 3, 50, 99, 100} {
		l = append(l, frame(0, 0, 0, "", every(n)...))
	}
	for _, n := range []int{1, 2, 127, 128, 255, 256, 32767, 32768, 32769, 40000, 59999, 60000} {
		l = append(l, frame(2, 3, 4, text(n)))
	}
	for _, x := range []api.Fix{0, 1, -1, api.One, -api.One, api.MaxFix, api.MinFix} {
		l = append(l, frame(3, 4, 5, "", x), frame(3, 4, 5, "x", x, 0, x))
	}
	return append(l, frame(9, 255, 1<<47-1, strings.Repeat("\xa5", 60000), every(100)...))
}

// unsummed lays out a frame as the document says, by means of its own, without its sum.
func unsummed(f wire.Frame) []byte {
	b := []byte{165, byte(f.Kind), byte(f.From)}
	b = append(b, binary.BigEndian.AppendUint64(nil, uint64(f.Tick))[2:]...)
	b = append(b, byte(len(f.Nums)))
	for _, x := range f.Nums {
		b = binary.BigEndian.AppendUint64(b, uint64(x))
	}
	b = binary.BigEndian.AppendUint16(b, uint16(len(f.Data)))
	return append(b, f.Data...)
}

// summed puts the sum behind some bytes.
func summed(b []byte) string {
	return string(binary.BigEndian.AppendUint32(append(slices.Clip(b), 0), crc32.ChecksumIEEE(b)))
}

func laid(f wire.Frame) string { return summed(unsummed(f)) }

// alike is what Same should tell, by means of its own.
func alike(a, b wire.Frame) bool {
	return a.Kind == b.Kind && a.From == b.From && a.Tick == b.Tick && a.Data == b.Data && slices.Equal(a.Nums, b.Nums)
}

// show tells a frame in a few words.
func show(f wire.Frame) string {
	return fmt.Sprintf("%v, %d Nums %v, %d bytes %.20q", f.Head, len(f.Nums), f.Nums[:min(3, len(f.Nums))], len(f.Data), f.Data)
}

func mustPut(t *testing.T, f wire.Frame) string {
	t.Helper()
	b, e := wire.Put(f)
	if e != api.OK {
		t.Fatalf("Put of %s: %d", show(f), e)
	}
	return b
}

// P401
func TestPut(t *testing.T) {
	for _, f := range frames() {
		if b := mustPut(t, f); b != laid(f) {
			t.Errorf("Put of %s: other bytes", show(f))
		}
	}
}

// P401: byte by byte.
func TestPutExample(t *testing.T) {
	want := "\xa5\x01\x02\x00\x00\x00\x00\x00\x03\x01\x00\x00\x00\x00\x00\x00\x00\x05\x00\x00"
	b := mustPut(t, frame(1, 2, 3, "", 5))
	if len(b) != 25 || b[:20] != want || b != summed([]byte(want)) {
		t.Errorf("the example: %x", b)
	}
	b = mustPut(t, frame(9, 200, 0x7a0102030405, "hi", -1))
	want = "\xa5\x09\xc8\x7a\x01\x02\x03\x04\x05\x01\xff\xff\xff\xff\xff\xff\xff\xff\x00\x02hi"
	if b != summed([]byte(want)) {
		t.Errorf("another one: %x", b)
	}
	b = mustPut(t, frame(0, 0, 0, strings.Repeat("x", 32768)))
	if b[:13] != "\xa5"+strings.Repeat("\x00", 9)+"\x80\x00x" || len(b) != 12+32768+5 {
		t.Errorf("32,768 bytes: %x", b[:13])
	}
}

func refused(t *testing.T, f wire.Frame, want api.Errno) {
	t.Helper()
	if b, e := wire.Put(f); b != "" || e != want {
		t.Errorf("Put of %s: %d bytes, %d, not %d", show(f), len(b), e, want)
	}
}

// P401
func TestPutOfWhatCanNotBe(t *testing.T) {
	for _, kind := range []int{leastInt, -256, -1, 10, 11, 255, 256, 265, 1 << 32, greatestInt} {
		refused(t, frame(kind, 0, 0, ""), api.ErrArg)
	}
	for _, from := range []int{leastInt, -256, -128, -1, 256, 257, 511, 1 << 32, greatestInt} {
		refused(t, frame(0, from, 0, ""), api.ErrArg)
	}
	for _, tick := range []int{leastInt, -1 << 47, -1, 1 << 47, 1<<47 + 1, 1 << 48, 1 << 62, greatestInt} {
		refused(t, frame(0, 0, tick, ""), api.ErrArg)
	}
	for _, n := range []int{101, 102, 255, 256, 257, 356, 1000} {
		refused(t, frame(0, 0, 0, "", every(n)...), api.ErrLong)
	}
	for _, n := range []int{60001, 65535, 65536, 65537, 125536, 1 << 20} {
		refused(t, frame(0, 0, 0, text(n)), api.ErrLong)
	}
	refused(t, frame(9, 255, 1<<47-1, text(60001), every(101)...), api.ErrLong)
	for _, f := range []wire.Frame{frame(10, 0, 0, ""), frame(0, 256, 0, ""), frame(0, 0, -1, "")} {
		f.Data, f.Nums = text(60001), every(101)
		refused(t, f, api.ErrArg)
	}
}

// P402
func TestSame(t *testing.T) {
	is := func(a, b wire.Frame, want bool) {
		t.Helper()
		if wire.Same(a, b) != want || wire.Same(b, a) != want {
			t.Errorf("Same of %s and %s: not %v", show(a), show(b), want)
		}
	}
	for _, f := range frames() {
		g := f
		g.Nums = slices.Clone(f.Nums)
		g.Data = strings.Clone(f.Data)
		if !wire.Same(f, g) {
			t.Errorf("not the same: %s", show(f))
		}
	}
	f := frame(1, 2, 3, "abc", 5, 6)
	for _, g := range []wire.Frame{
		frame(0, 2, 3, "abc", 5, 6), frame(1, 3, 3, "abc", 5, 6), frame(1, 2, 4, "abc", 5, 6), frame(2, 1, 3, "abc", 5, 6),
		frame(1, 2, 3, "abd", 5, 6), frame(1, 2, 3, "ab", 5, 6), frame(1, 2, 3, "abc\x00", 5, 6), frame(1, 2, 3, "", 5, 6),
		frame(1, 2, 3, "abc", 5, 7), frame(1, 2, 3, "abc", 6, 5), frame(1, 2, 3, "abc", 5), frame(1, 2, 3, "abc", 5, 6, 0), frame(1, 2, 3, "abc"),
		{},
	} {
		is(f, g, false)
		is(g, g, true)
	}
	is(wire.Frame{}, wire.Frame{Nums: []api.Fix{}}, true)
	is(wire.Frame{}, wire.Frame{Nums: []api.Fix{0}}, false)
}

// P402: frames that can't be put are the same or not just as others are.
func TestSameOfWhatCanNotBe(t *testing.T) {
	long := frame(-5, greatestInt, leastInt, text(70000), every(300)...)
	other := frame(-5, greatestInt, leastInt, text(70000), every(300)...)
	if !wire.Same(long, other) {
		t.Error("not the same")
	}
	other.Nums[299]++
	if wire.Same(long, other) {
		t.Error("another last number, but the same")
	}
	other.Nums[299]--
	other.Data = other.Data[:69999] + string([]byte{other.Data[69999] + 1})
	if wire.Same(long, other) {
		t.Error("another last byte, but the same")
	}
	if wire.Same(frame(1, 0, 0, ""), frame(257, 0, 0, "")) {
		t.Error("another Kind, but the same")
	}
}

// Lists that are handed in stay as they were, their spare room too.
func TestListsStay(t *testing.T) {
	room := every(120)
	was := slices.Clone(room)
	for _, n := range []int{0, 1, 5, 100, 101} {
		f := frame(1, 2, 3, "data", room[:n]...)
		b, _ := wire.Put(f)
		wire.Same(f, f)
		wire.Same(f, frame(1, 2, 3, "data", room[:n/2]...))
		wire.Get(b)
		if !slices.Equal(room, was) || len(f.Nums) != n {
			t.Fatalf("%d Nums did not stay", n)
		}
	}
}
