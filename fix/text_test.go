package fix_test

import (
	"math/big"
	"strings"
	"testing"

	"picket/api"
	"picket/fix"
)

const least = "0.00000000023283064365386962890625" // 2^-32

// P104
func TestText(t *testing.T) {
	for _, c := range []struct {
		x    api.Fix
		want string
	}{
		{0, "0"},
		{1, least},
		{-1, "-" + least},
		{one, "1"},
		{-one, "-1"},
		{one + one/2, "1.5"},
		{-one / 4, "-0.25"},
		{10 * one, "10"},
		{one / 1024, "0.0009765625"},
		{top, "2147483647.99999999976716935634613037109375"},
		{low, "-2147483648"},
		{low + 1, "-2147483647.99999999976716935634613037109375"},
	} {
		if got := fix.Text(c.x); got != c.want {
			t.Errorf("Text(%d): %s, not %s", c.x, got, c.want)
		}
	}
}

// exactText tells a number's text by fractions.
func exactText(x api.Fix) string {
	s := new(big.Rat).SetFrac(wide(x), wide(one)).FloatString(32)
	return strings.TrimSuffix(strings.TrimRight(s, "0"), ".")
}

// P104, P107
func TestTextOfSamples(t *testing.T) {
	for _, x := range samples() {
		s := fix.Text(x)
		if s != exactText(x) {
			t.Errorf("Text(%d): %s, not %s", x, s, exactText(x))
		}
		if y, e := fix.Parse(s); y != x || e != api.OK {
			t.Errorf("Parse(%s): %d, %d, not %d", s, y, e, x)
		}
	}
}

// P104
func TestParse(t *testing.T) {
	for _, c := range []struct {
		s    string
		want api.Fix
	}{
		{"0", 0},
		{"-0", 0},
		{"-0.0", 0},
		{"1", one},
		{"1.0", one},
		{"10", 10 * one},
		{"1.50", one + one/2},
		{"-0.5", -one / 2},
		{"0.05078125", one * 13 / 256},
		{least, 1},
		{"-" + least, -1},
		{"0." + strings.Repeat("0", 32), 0},
		{"2147483647", top - one + 1},
		{"2147483647.99999999976716935634613037109375", top},
		{"-2147483647.99999999976716935634613037109375", low + 1},
		{"-2147483648", low},
		{"-2147483648." + strings.Repeat("0", 32), low},
	} {
		if x, e := fix.Parse(c.s); x != c.want || e != api.OK {
			t.Errorf("Parse(%s): %d, %d, not %d", c.s, x, e, c.want)
		}
	}
}

// P104
func TestParseOfNoFix(t *testing.T) {
	for _, s := range []string{
		"0.1",
		"-0.3",
		"0.0000000002328306436538696289062",
		"0.00000000023283064365386962890626",
		"0.00000000011641532182693481445312",
		"0." + strings.Repeat("0", 31) + "1",
		"0." + strings.Repeat("9", 32),
		"2147483647.99999999976716935634613037109376",
		"2147483648",
		"2147483648.0",
		"-2147483648." + least[2:],
		"-2147483648.5",
		"-2147483649",
		"4294967296",
		"-4294967297.5",
		"8589934592",
		"9999999999",
		"-9999999999.1",
	} {
		if x, e := fix.Parse(s); x != 0 || e != api.ErrOver {
			t.Errorf("Parse(%s): %d, %d, not ErrOver", s, x, e)
		}
	}
}

// P104
func TestParseOfNoNumber(t *testing.T) {
	for _, s := range []string{
		"", "-", ".", "-.", "1.", "-1.", ".5", "-.5", "--1", "-+1", "+1", "01", "-01", "00", "00.5",
		"10000000000", "00000000001", "10000000000.1", "9999999999.", "0." + strings.Repeat("0", 33),
		"9999999999." + strings.Repeat("9", 33), strings.Repeat("1", 70000), "1." + strings.Repeat("1", 70000),
		"1.2.3", "1..2", "1.-2", "1.+2", "1-", "1e5", "0x1", "1_0", "1,5", " 1", "1 ", "1. 5", "1.5 ", "1\n",
		"1\x00", "\x001", "a", "1a", "1.a", "1/2", "1:", "1.5/", "1.:", "\xff", "1.\xff", "\u0661", "1.\u0665", "inf", "nan",
	} {
		if x, e := fix.Parse(s); x != 0 || e != api.ErrNumber {
			t.Errorf("Parse(%.40q): %d, %d, not ErrNumber", s, x, e)
		}
	}
}

// P105
func TestCompare(t *testing.T) {
	l := []string{"", "\x00", "\x00\x00", "\x00b", "A", "a", "a\x00", "aa", "ab", "b", "\x7f", "\x80", "\u00e9", "\xff", "\xff\xff"}
	for i, a := range l {
		for j, b := range l {
			want := 0
			if i < j {
				want = -1
			}
			if i > j {
				want = 1
			}
			if got := fix.Compare(a, b); got != want {
				t.Errorf("Compare(%q, %q): %d, not %d", a, b, got, want)
			}
		}
	}
}

// P105
func TestDigits(t *testing.T) {
	for _, c := range []struct {
		v    int
		want string
	}{
		{0, "0"},
		{7, "7"},
		{-50, "-50"},
		{100, "100"},
		{10000000000, "10000000000"},
		{top, "9223372036854775807"},
		{low, "-9223372036854775808"},
	} {
		if got := fix.Digits(c.v); got != c.want {
			t.Errorf("Digits(%d): %s", c.v, got)
		}
	}
}

// P105
func TestNumber(t *testing.T) {
	for _, v := range []int{0, 1, 9, 10, 105, 4294967296, 1000000000, 9999999999} {
		if got, e := fix.Number(fix.Digits(v)); got != v || e != api.OK {
			t.Errorf("Number of %d: %d, %d", v, got, e)
		}
	}
	for _, s := range []string{
		"", "00", "01", "0000000000", "10000000000", "99999999999", strings.Repeat("9", 70000),
		"-1", "-0", "+1", "1x", "x1", "1 ", " 1", "1.0", "1/", "1:", "/", ":", "\xff", "\u0661", "1\x00", "0x1", "1_0",
	} {
		if v, e := fix.Number(s); v != 0 || e != api.ErrNumber {
			t.Errorf("Number(%.40q): %d, %d, not ErrNumber", s, v, e)
		}
	}
}
