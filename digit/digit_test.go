package digit_test

import (
	"math"
	"strconv"
	"strings"
	"testing"

	"deemster/api"
	"deemster/digit"
)

var numbers = []int64{0, 1, -1, 9, 10, -10, 99, 100, 12345, -98765, 1 << 31, 1<<53 + 1, -(1 << 62), 1e18, -1e18, math.MaxInt64 - 1, math.MaxInt64, math.MinInt64 + 1, math.MinInt64}

func TestPrint(t *testing.T) {
	for _, n := range numbers {
		if got := digit.Print(n); got != strconv.FormatInt(n, 10) {
			t.Errorf("Print(%d): %q", n, got)
		}
	}
}

func TestParse(t *testing.T) {
	for _, n := range numbers {
		if got, e := digit.Parse(strconv.FormatInt(n, 10)); got != n || e != api.OK {
			t.Errorf("Parse of %d: %d %v", n, got, e)
		}
	}
}

var noTexts = []string{
	"", "-", "--1", "-0", "00", "01", "-01", "0x1", "1 ", " 1", "+1", "1-", "1.0", "1e3", "1_0", "a", "٣", "1\n", "\xff", "9a", "/", ":",
	"0" + strings.Repeat("9", 30), "-0" + strings.Repeat("9", 30), strings.Repeat("9", 30) + "a", "99999999999999999999-",
}

var tooGreat = []string{
	"9223372036854775808", "-9223372036854775809", "9999999999999999999", "-9999999999999999999", "18446744073709551615", "18446744073709551616",
	"18446744073709551617", "-18446744073709551616", "10000000000000000000", strings.Repeat("1", 20), "-" + strings.Repeat("1", 100), "1" + strings.Repeat("0", 5000),
}

func TestParseWrong(t *testing.T) {
	for _, s := range noTexts {
		if n, e := digit.Parse(s); n != 0 || e != api.ErrText {
			t.Errorf("Parse(%q): %d %v", s, n, e)
		}
	}
	for _, s := range tooGreat {
		if n, e := digit.Parse(s); n != 0 || e != api.ErrRange {
			t.Errorf("Parse(%q): %d %v", s, n, e)
		}
	}
}

func TestDigits(t *testing.T) {
	for _, s := range append([]string{"0", "7", "-7", "10", "-10", "1000"}, tooGreat...) {
		if !digit.Digits(s) {
			t.Errorf("%q is as a number's text", s)
		}
	}
	for _, s := range noTexts {
		if digit.Digits(s) {
			t.Errorf("%q is not as a number's text", s)
		}
	}
}

func TestBackAndForth(t *testing.T) {
	for _, s := range []string{"0", "5", "-5", "120", "9223372036854775807", "-9223372036854775808"} {
		n, e := digit.Parse(s)
		if got := digit.Print(n); got != s || e != api.OK {
			t.Errorf("%q parsed and printed: %q %v", s, got, e)
		}
	}
	for n := int64(-1100); n < 1100; n++ {
		if got, e := digit.Parse(digit.Print(n)); got != n || e != api.OK {
			t.Errorf("%d printed and parsed: %d %v", n, got, e)
		}
	}
}
