package point_test

import (
	"math"
	"math/rand"
	"regexp"
	"slices"
	"strconv"
	"strings"
	"testing"

	"weighbridge/almost"
	"weighbridge/api"
	"weighbridge/point"
)

// names are the names of all code points, each at its place.
func names() []string {
	return strings.Fields(`
		cs0  le   2   3  4   5  6   7
		cs1  9   af11 11 af12 13 af13 15
		cs2  17  af21 19 af22 21 af23 23
		cs3  25  af31 27 af32 29 af33 31
		cs4  33  af41 35 af42 37 af43 39
		cs5  41  42   43 va   45 ef   47
		cs6  49  50   51 52   53 54   55
		cs7  57  58   59 60   61 62   63`)
}

// outside are numbers that are no code points.
func outside() []int {
	l := []int{64, 65, 72, 74, 110, 128, 255, 256, 302, 1 << 32, 1<<32 + 46, math.MaxInt, math.MaxInt - 1, math.MinInt, math.MinInt + 1, math.MinInt + 46}
	for n := 1; n <= 200; n++ {
		l = append(l, -n, 63+n)
	}
	return l
}

// P9.1

func TestSplit(t *testing.T) {
	for n := range 256 {
		if d, ecn := point.Split(byte(n)); d != n/4 || ecn != n%4 {
			t.Errorf("Split(%x) = %d, %d", n, d, ecn)
		}
	}
	if d, ecn := point.Split(0xb9); d != 46 || ecn != 1 {
		t.Errorf("Split(b9) = %d, %d", d, ecn)
	}
}

func TestJoin(t *testing.T) {
	for d := range 64 {
		for ecn := range 4 {
			got, e := point.Join(d, ecn)
			if int(got) != 4*d+ecn || e != api.OK {
				t.Errorf("Join(%d, %d) = %x, %d", d, ecn, got, e)
			}
			if x, y := point.Split(got); x != d || y != ecn {
				t.Errorf("Split(%x) = %d, %d, and it is joined of %d, %d", got, x, y, d, ecn)
			}
		}
	}
}

func TestJoinOfSplit(t *testing.T) {
	for n := range 256 {
		if got, e := point.Join(point.Split(byte(n))); int(got) != n || e != api.OK {
			t.Errorf("Join of Split(%x) = %x, %d", n, got, e)
		}
	}
}

func TestJoinErrors(t *testing.T) {
	wrong := []int{-1, -2, -4, 4, 5, 7, 8, 63, 64, 256, 1 << 32, math.MaxInt, math.MinInt}
	refuse := func(d, ecn int, want api.Errno) {
		if got, e := point.Join(d, ecn); got != 0 || e != want {
			t.Errorf("Join(%d, %d) = %x, %d, not %d", d, ecn, got, e, want)
		}
	}
	for _, d := range outside() {
		for ecn := range 4 {
			refuse(d, ecn, api.ErrPoint)
		}
		// The code point ranks ahead of the two bits.
		for _, ecn := range wrong {
			refuse(d, ecn, api.ErrPoint)
		}
	}
	for d := range 64 {
		for _, ecn := range wrong {
			refuse(d, ecn, api.ErrRange)
		}
	}
}

// P9.2

func TestAf(t *testing.T) {
	want := [4][3]int{{10, 12, 14}, {18, 20, 22}, {26, 28, 30}, {34, 36, 38}}
	for class := -9; class < 300; class++ {
		for prec := -9; prec < 300; prec++ {
			d, f := 0, api.ErrRange
			if 1 <= class && class <= 4 && 1 <= prec && prec <= 3 {
				d, f = want[class-1][prec-1], api.OK
			}
			if got, e := point.Af(class, prec); got != d || e != f {
				t.Errorf("Af(%d, %d) = %d, %d, not %d, %d", class, prec, got, e, d, f)
			}
		}
	}
}

func TestAfOutOfRange(t *testing.T) {
	for _, n := range []int{1 << 32, 1<<32 + 1, 1 << 61, 1 << 62, math.MaxInt, math.MinInt, math.MinInt + 1, math.MinInt + 2} {
		for _, c := range [][2]int{{n, 1}, {1, n}, {n, n}, {4, n}, {n, 3}} {
			if got, e := point.Af(c[0], c[1]); got != 0 || e != api.ErrRange {
				t.Errorf("Af(%d, %d) = %d, %d", c[0], c[1], got, e)
			}
		}
	}
}

func TestPrec(t *testing.T) {
	want := map[int]int{10: 1, 12: 2, 14: 3, 18: 1, 20: 2, 22: 3, 26: 1, 28: 2, 30: 3, 34: 1, 36: 2, 38: 3}
	for d := range 64 {
		if got := point.Prec(d); got != want[d] {
			t.Errorf("Prec(%d) = %d, not %d", d, got, want[d])
		}
	}
	for _, d := range outside() {
		if got := point.Prec(d); got != 0 {
			t.Errorf("Prec(%d) = %d", d, got)
		}
	}
}

// P9.3

// sorts are the sorts by the letters of the names; nothing but digits is of another sort.
func sorts() map[string]string {
	return map[string]string{"cs": "class", "af": "assured", "ef": "expedited", "va": "voice", "le": "lower", "": "other"}
}

func TestSort(t *testing.T) {
	for d, name := range names() {
		want := sorts()[strings.TrimRight(name, "0123456789")]
		if got := point.Sort(d); got != want {
			t.Errorf("Sort(%d) = %q, not %q", d, got, want)
		}
	}
	for _, d := range outside() {
		if got := point.Sort(d); got != "" {
			t.Errorf("Sort(%d) = %q", d, got)
		}
	}
}

// P9.4

func TestName(t *testing.T) {
	if len(names()) != 64 {
		t.Fatalf("%d names", len(names()))
	}
	for d, want := range names() {
		if got := point.Name(d); got != want {
			t.Errorf("Name(%d) = %q, not %q", d, got, want)
		}
	}
	for _, d := range outside() {
		if got := point.Name(d); got != "" {
			t.Errorf("Name(%d) = %q", d, got)
		}
	}
}

// P9.5

// form is the form of a number that Parse takes.
var form = regexp.MustCompile(`\A(0|[1-9][0-9]?)\z`)

// reference tells what the document says of a text.
func reference(s string) (int, api.Errno) {
	if d := slices.Index(names(), s); d >= 0 {
		return d, api.OK
	}
	if !form.MatchString(s) {
		return 0, api.ErrForm
	}
	d, _ := strconv.Atoi(s)
	if d >= 64 {
		return 0, api.ErrPoint
	}
	return d, api.OK
}

func check(t *testing.T, s string) {
	t.Helper()
	want, f := reference(s)
	if got, e := point.Parse(s); got != want || e != f {
		t.Errorf("Parse(%q) = %d, %d, not %d, %d", s, got, e, want, f)
	}
}

func TestParse(t *testing.T) {
	cases := map[string]int{
		"cs0": 0, "cs1": 8, "cs7": 56, "le": 1, "af11": 10, "af43": 38, "ef": 46, "va": 44, "0": 0, "1": 1, "8": 8, "9": 9, "10": 10, "38": 38,
		"44": 44, "46": 46, "56": 56, "62": 62, "63": 63,
	}
	for s, want := range cases {
		if got, e := point.Parse(s); got != want || e != api.OK {
			t.Errorf("Parse(%q) = %d, %d, not %d", s, got, e, want)
		}
	}
}

func TestParseErrors(t *testing.T) {
	cases := map[api.Errno][]string{
		api.ErrForm: {"", " ", "AF43", "Af43", "EF", "ef ", " ef", "ef0", "e", "f", "eef", "va0", "le1", "cs", "cs8", "cs9", "cs00", "cs01", "cs-1", "cs10", "CS1",
			"af", "af1", "af10", "af14", "af01", "af51", "af00", "af111", "af1 1", "af-11", "a11", "be", "df", "default", "nn", "00", "01", "07", "000", "046",
			"100", "640", "+1", "-1", "-0", "+0", " 1", "1 ", "1.", "0x1", "1e1", "1_0", "6 3", "cs1\n", "46\n", "46\x00", "\x00", "\xff", "4\u0666", "٤٦",
			"expedited", "class", "assured", "voice", "lower", "other", "10.", "99999999999999999999"},
		api.ErrPoint: {"64", "65", "70", "79", "80", "90", "98", "99"},
	}
	for want, texts := range cases {
		for _, s := range texts {
			if got, e := point.Parse(s); got != 0 || e != want {
				t.Errorf("Parse(%q) = %d, %d, not %d", s, got, e, want)
			}
		}
	}
}

func TestParseOfEveryNumber(t *testing.T) {
	for n := range 2000 {
		s := strconv.Itoa(n)
		for _, text := range []string{s, "0" + s, "00" + s, "-" + s, "+" + s, "cs" + s, "af" + s, "ef" + s} {
			check(t, text)
		}
	}
}

func TestParseOfAlmostNames(t *testing.T) {
	for _, s := range append(names(), "0", "1", "8", "44", "46", "63", "64", "99", "100") {
		for _, text := range almost.Texts(s) {
			check(t, text)
		}
	}
}

func TestParseOfDrawnTexts(t *testing.T) {
	draw := rand.New(rand.NewSource(11))
	const letters = "acefslv0134669"
	for range 100000 {
		s := make([]byte, draw.Intn(6))
		for i := range s {
			s[i] = letters[draw.Intn(len(letters))]
		}
		check(t, string(s))
	}
	for _, s := range []string{"1", "0", "a", "ef", "\x00"} {
		long := strings.Repeat(s, 1<<20)
		if got, e := point.Parse(long); got != 0 || e != api.ErrForm {
			t.Errorf("Parse of %d bytes = %d, %d", len(long), got, e)
		}
	}
}

// P9.6

func TestParseOfName(t *testing.T) {
	seen := map[string]int{}
	for d := range 64 {
		name := point.Name(d)
		if other, twice := seen[name]; twice || name == "" {
			t.Errorf("%q is the name of %d and of %d", name, other, d)
		}
		seen[name] = d
		if got, e := point.Parse(name); got != d || e != api.OK {
			t.Errorf("Parse(%q) = %d, %d, not %d", name, got, e, d)
		}
	}
}

func TestAfOfPrec(t *testing.T) {
	count := 0
	for d := range 64 {
		if point.Sort(d) != "assured" {
			continue
		}
		count++
		if got, e := point.Af(d/8, point.Prec(d)); got != d || e != api.OK {
			t.Errorf("Af(%d, Prec(%d)) = %d, %d", d/8, d, got, e)
		}
	}
	if count != 12 {
		t.Errorf("%d code points are assured", count)
	}
}

// P5 of the general rules: a call answers the same whatever was called ahead of it.
func TestNothingIsKept(t *testing.T) {
	for range 3 {
		if got, e := point.Parse("af43"); got != 38 || e != api.OK {
			t.Errorf("Parse = %d, %d", got, e)
		}
		if got, e := point.Parse("64"); got != 0 || e != api.ErrPoint {
			t.Errorf("Parse of 64 = %d, %d", got, e)
		}
		if got := point.Name(46); got != "ef" {
			t.Errorf("Name = %q", got)
		}
		if got, e := point.Join(64, 0); got != 0 || e != api.ErrPoint {
			t.Errorf("Join = %x, %d", got, e)
		}
		if got := point.Sort(47); got != "other" {
			t.Errorf("Sort = %q", got)
		}
	}
}
