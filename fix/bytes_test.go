package fix_test

import (
	"hash/crc32"
	"strings"
	"testing"

	"picket/api"
	"picket/fix"
)

// P106
func TestPut(t *testing.T) {
	for _, c := range []struct {
		v, n int
		want string
	}{
		{0, 1, "\x00"},
		{127, 1, "\x7f"},
		{-128, 1, "\x80"},
		{-1, 1, "\xff"},
		{128, 2, "\x00\x80"},
		{-129, 2, "\xff\x7f"},
		{258, 2, "\x01\x02"},
		{-1, 3, "\xff\xff\xff"},
		{0x010203, 5, "\x00\x00\x01\x02\x03"},
		{top, 8, "\x7f\xff\xff\xff\xff\xff\xff\xff"},
		{low, 8, "\x80\x00\x00\x00\x00\x00\x00\x00"},
	} {
		if b, e := fix.Put(c.v, c.n); b != c.want || e != api.OK {
			t.Errorf("Put(%d, %d): %x, %d, not %x", c.v, c.n, b, e, c.want)
		}
	}
}

// P106
func TestPutOfWhatDoesNotFit(t *testing.T) {
	for _, n := range []int{low, -8, -1, 0, 9, 10, 64, top} {
		for _, v := range []int{0, 1, -1} {
			if b, e := fix.Put(v, n); b != "" || e != api.ErrArg {
				t.Errorf("Put(%d, %d): %x, %d, not ErrArg", v, n, b, e)
			}
		}
	}
	for n := 1; n < 8; n++ {
		for _, v := range []int{1 << (8*n - 1), -1<<(8*n-1) - 1, 1 << (8 * n), top, low} {
			if b, e := fix.Put(v, n); b != "" || e != api.ErrArg {
				t.Errorf("Put(%d, %d): %x, %d, not ErrArg", v, n, b, e)
			}
		}
	}
}

// P106
func TestGet(t *testing.T) {
	for _, c := range []struct {
		b    string
		want int
	}{
		{"\x00", 0},
		{"\xff", -1},
		{"\x80", -128},
		{"\x01\x02", 258},
		{"\x80\x00", -32768},
		{"\x00\x80", 128},
		{"\xff\xff\xff", -1},
		{"\x7f\xff\xff\xff\xff\xff\xff\xff", top},
		{"\x80\x00\x00\x00\x00\x00\x00\x00", low},
	} {
		if v, e := fix.Get(c.b); v != c.want || e != api.OK {
			t.Errorf("Get(%x): %d, %d, not %d", c.b, v, e, c.want)
		}
	}
	for _, b := range []string{"", strings.Repeat("\x00", 9), strings.Repeat("\xff", 70000)} {
		if v, e := fix.Get(b); v != 0 || e != api.ErrArg {
			t.Errorf("Get of %d bytes: %d, %d, not ErrArg", len(b), v, e)
		}
	}
}

// P106, P107
func TestGetOfPut(t *testing.T) {
	for n := 1; n <= 8; n++ {
		for _, x := range samples() {
			v := x >> (64 - 8*n) // of any size that n bytes have
			b, e := fix.Put(v, n)
			if len(b) != n || e != api.OK {
				t.Errorf("Put(%d, %d): %x, %d", v, n, b, e)
			}
			if got, e := fix.Get(b); got != v || e != api.OK {
				t.Errorf("Get(%x): %d, %d, not %d", b, got, e, v)
			}
		}
	}
}

// P106
func TestSum(t *testing.T) {
	if got := fix.Sum("123456789"); got != 3421780262 {
		t.Errorf("Sum: %d", got)
	}
	for _, b := range []string{"", "\x00", "\xff", "\x00\x00\x00\x00", "\xff\xff\xff\xff", "picket", strings.Repeat("\x80\x01", 3000)} {
		if got, want := fix.Sum(b), int(crc32.ChecksumIEEE([]byte(b))); got != want {
			t.Errorf("Sum of %d bytes: %d, not %d", len(b), got, want)
		}
	}
}
