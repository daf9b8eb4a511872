package decimal_test

import (
	"math"
	"regexp"
	"strconv"
	"strings"
	"testing"

	"weighbridge/almost"
	"weighbridge/api"
	"weighbridge/decimal"
)

// form is the form of a number of any length.
var form = regexp.MustCompile(`\A(0|[1-9][0-9]*)\z`)

func check(t *testing.T, s string, most int, want uint64, f api.Errno) {
	t.Helper()
	if got, e := decimal.Parse(s, most); got != want || e != f {
		t.Errorf("Parse(%q, %d) = %d, %d, not %d, %d", s, most, got, e, want, f)
	}
}

func TestParse(t *testing.T) {
	for n := range uint64(1200) {
		s := strconv.FormatUint(n, 10)
		check(t, s, len(s), n, api.OK)
		check(t, s, len(s)+1, n, api.OK)
		check(t, s, len(s)-1, 0, api.ErrForm)
		check(t, "0"+s, 20, 0, api.ErrForm)
		check(t, "00"+s, 20, 0, api.ErrForm)
	}
	check(t, "9999999999999", 13, 9999999999999, api.OK)
	check(t, "9999999999999999999", 20, 9999999999999999999, api.OK)
}

func TestParseForm(t *testing.T) {
	for _, s := range []string{"", " ", "-", "+", "*", "-1", "+1", " 1", "1 ", "1.", ".1", "1-2", "0x1", "1_0", "1e1", "a", "1a", "a1", "/", ":", "1/", "1:", "00", "01", "1\n", "1\x00", "\u0661", "\xff", "１"} {
		check(t, s, 20, 0, api.ErrForm)
	}
	for _, most := range []int{0, -1, math.MinInt} {
		check(t, "", most, 0, api.ErrForm)
		check(t, "1", most, 0, api.ErrForm)
	}
	check(t, strings.Repeat("1", 1<<20), 20, 0, api.ErrForm)
}

func TestParseRange(t *testing.T) {
	check(t, "18446744073709551615", 20, math.MaxUint64, api.OK)
	check(t, "18446744073709551614", 20, math.MaxUint64-1, api.OK)
	check(t, "18446744073709551616", 20, 0, api.ErrRange)
	check(t, "18446744073709551625", 20, 0, api.ErrRange)
	check(t, "99999999999999999999", 20, 0, api.ErrRange)
	check(t, "184467440737095516150", 21, 0, api.ErrRange)
	check(t, strings.Repeat("9", 1000), math.MaxInt, 0, api.ErrRange)
	// The form ranks ahead of the size.
	check(t, "9999999999999999999x", 20, 0, api.ErrForm)
	check(t, "99999999999999999999x", 21, 0, api.ErrForm)
	check(t, "099999999999999999999", 21, 0, api.ErrForm)
	check(t, "184467440737095516150", 20, 0, api.ErrForm)
}

func TestParseOfAlmostNumbers(t *testing.T) {
	for _, s := range []string{"0", "1", "9", "10", "65535", "1099511627776"} {
		for _, text := range almost.Texts(s) {
			if len(text) <= 13 && form.MatchString(text) {
				want, _ := strconv.ParseUint(text, 10, 64)
				check(t, text, 13, want, api.OK)
				continue
			}
			check(t, text, 13, 0, api.ErrForm)
		}
	}
}
