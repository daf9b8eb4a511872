package span_test

import (
	"math"
	"math/rand"
	"regexp"
	"slices"
	"strconv"
	"strings"
	"testing"

	"weighbridge/almost"
	"weighbridge/api"
	"weighbridge/span"
)

// last is the greatest port.
const last = 65535

// edges are numbers at all edges of the ports and beyond them.
func edges() []int {
	return []int{math.MinInt, -65536, -1, 0, 1, 2, 3, 100, 32767, 32768, 65533, 65534, 65535, 65536, 65537, 131071, math.MaxInt}
}

// numbers tell by an array which ports some spans have: each of the spans is valid.
func numbers(l []api.Span) *[last + 1]bool {
	var in [last + 1]bool
	for _, s := range l {
		for n := s.Lo; n <= s.Hi; n++ {
			in[n] = true
		}
	}
	return &in
}

// runs tell the spans of the ports at which an array has a value: one after another one is part of the same span.
func runs(in *[last + 1]bool, value bool) []api.Span {
	var l []api.Span
	for n := 0; n <= last; n++ {
		if in[n] != value {
			continue
		}
		lo := n
		for n < last && in[n+1] == value {
			n++
		}
		l = append(l, api.Span{Lo: lo, Hi: n})
	}
	return l
}

// lists are all lists of up to two spans between some ports, and longer ones that are drawn, the same ones in each run.
func lists() [][]api.Span {
	ports := []int{0, 1, 2, 3, 65533, 65534, 65535}
	var spans []api.Span
	for _, lo := range ports {
		for _, hi := range ports {
			if lo <= hi {
				spans = append(spans, api.Span{Lo: lo, Hi: hi})
			}
		}
	}
	l := [][]api.Span{nil, {}}
	for _, a := range spans {
		l = append(l, []api.Span{a})
		for _, b := range spans {
			l = append(l, []api.Span{a, b})
		}
	}
	draw := rand.New(rand.NewSource(8))
	for range 400 {
		list := make([]api.Span, 3+draw.Intn(30))
		longest, base, room := 1+draw.Intn(40), draw.Intn(2)*(last-600), 1+draw.Intn(600)
		for i := range list {
			lo := base + draw.Intn(room)
			list[i] = api.Span{Lo: lo, Hi: min(lo+draw.Intn(longest), last)}
		}
		l = append(l, list)
	}
	return l
}

// invalid are lists with an element that is not valid, and the error of the first one.
func invalid() []struct {
	l []api.Span
	e api.Errno
} {
	good, ranged, ordered := api.Span{Lo: 5, Hi: 9}, api.Span{Lo: 5, Hi: 65536}, api.Span{Lo: 9, Hi: 5}
	return []struct {
		l []api.Span
		e api.Errno
	}{
		{[]api.Span{ranged}, api.ErrRange}, {[]api.Span{ordered}, api.ErrOrder}, {[]api.Span{{Lo: -1, Hi: 5}}, api.ErrRange},
		{[]api.Span{good, ranged}, api.ErrRange}, {[]api.Span{good, ordered, good}, api.ErrOrder}, {[]api.Span{ordered, ranged}, api.ErrOrder},
		{[]api.Span{ranged, ordered}, api.ErrRange}, {[]api.Span{good, good, ordered, ranged}, api.ErrOrder}, {[]api.Span{span.All(), ordered}, api.ErrOrder},
		{[]api.Span{good, {Lo: 70000, Hi: 5}, ordered}, api.ErrRange},
	}
}

// P8.1

func TestCheck(t *testing.T) {
	port := func(n int) bool { return 0 <= n && n <= 65535 }
	for _, lo := range edges() {
		for _, hi := range edges() {
			want := api.OK
			switch {
			case !port(lo), !port(hi):
				want = api.ErrRange
			case hi < lo:
				want = api.ErrOrder
			}
			if got := span.Check(api.Span{Lo: lo, Hi: hi}); got != want {
				t.Errorf("Check of %d to %d = %d, not %d", lo, hi, got, want)
			}
		}
	}
}

// P8.2

func TestAll(t *testing.T) {
	if got := span.All(); got != (api.Span{Lo: 0, Hi: 65535}) {
		t.Errorf("All = %d", got)
	}
}

func TestHas(t *testing.T) {
	for _, lo := range edges() {
		for _, hi := range edges() {
			s := api.Span{Lo: lo, Hi: hi}
			for _, n := range edges() {
				want := 0 <= lo && lo <= n && n <= hi && hi <= 65535
				if got := span.Has(s, n); got != want {
					t.Errorf("Has(%d, %d) = %v", s, n, got)
				}
			}
		}
	}
	for n := -2; n <= 65537; n++ {
		if got := span.Has(api.Span{Lo: 80, Hi: 443}, n); got != (80 <= n && n <= 443) {
			t.Fatalf("Has(80-443, %d) = %v", n, got)
		}
	}
}

func TestMeet(t *testing.T) {
	var spans []api.Span
	for _, lo := range edges() {
		for _, hi := range edges() {
			spans = append(spans, api.Span{Lo: lo, Hi: hi})
		}
	}
	for _, a := range spans {
		for _, b := range spans {
			want := api.Span{Lo: max(a.Lo, b.Lo), Hi: min(a.Hi, b.Hi)}
			ok := span.Check(a) == api.OK && span.Check(b) == api.OK && want.Lo <= want.Hi
			if !ok {
				want = api.Span{}
			}
			if got, met := span.Meet(a, b); got != want || met != ok {
				t.Fatalf("Meet(%d, %d) = %d, %v, not %d, %v", a, b, got, met, want, ok)
			}
		}
	}
}

func TestMeetOfNeighbours(t *testing.T) {
	cases := []struct {
		a, b, want api.Span
		ok         bool
	}{
		{api.Span{Lo: 5, Hi: 9}, api.Span{Lo: 9, Hi: 12}, api.Span{Lo: 9, Hi: 9}, true}, {api.Span{Lo: 5, Hi: 9}, api.Span{Lo: 10, Hi: 12}, api.Span{}, false},
		{api.Span{Lo: 0, Hi: 0}, span.All(), api.Span{}, true}, {span.All(), api.Span{Lo: 7, Hi: 8}, api.Span{Lo: 7, Hi: 8}, true},
		{api.Span{Lo: 1, Hi: 9}, api.Span{Lo: 3, Hi: 5}, api.Span{Lo: 3, Hi: 5}, true},
	}
	for _, c := range cases {
		for _, pair := range [][2]api.Span{{c.a, c.b}, {c.b, c.a}} {
			if got, ok := span.Meet(pair[0], pair[1]); got != c.want || ok != c.ok {
				t.Errorf("Meet(%d) = %d, %v, not %d, %v", pair, got, ok, c.want, c.ok)
			}
		}
	}
}

// P8.3

func TestUnion(t *testing.T) {
	cases := []struct{ l, want []api.Span }{
		{nil, nil},
		{[]api.Span{{Lo: 5, Hi: 9}, {Lo: 20, Hi: 30}, {Lo: 10, Hi: 12}}, []api.Span{{Lo: 5, Hi: 12}, {Lo: 20, Hi: 30}}},
		{[]api.Span{{Lo: 7, Hi: 7}, {Lo: 9, Hi: 9}}, []api.Span{{Lo: 7, Hi: 7}, {Lo: 9, Hi: 9}}},
		{[]api.Span{{Lo: 9, Hi: 9}, {Lo: 8, Hi: 8}, {Lo: 7, Hi: 7}}, []api.Span{{Lo: 7, Hi: 9}}},
		{[]api.Span{{Lo: 1, Hi: 100}, {Lo: 2, Hi: 3}, {Lo: 50, Hi: 60}, {Lo: 101, Hi: 101}}, []api.Span{{Lo: 1, Hi: 101}}},
		{[]api.Span{{Lo: 0, Hi: 32767}, {Lo: 32768, Hi: 65535}}, []api.Span{{Lo: 0, Hi: 65535}}},
		{[]api.Span{{Lo: 4, Hi: 4}, {Lo: 4, Hi: 4}}, []api.Span{{Lo: 4, Hi: 4}}},
	}
	for _, c := range cases {
		if got, e := span.Union(c.l); !slices.Equal(got, c.want) || e != api.OK {
			t.Errorf("Union(%d) = %d, %d, not %d", c.l, got, e, c.want)
		}
	}
	for _, l := range lists() {
		if got, e := span.Union(l); !slices.Equal(got, runs(numbers(l), true)) || e != api.OK {
			t.Fatalf("Union(%d) = %d, %d", l, got, e)
		}
	}
}

func TestUnionOfInvalid(t *testing.T) {
	for _, c := range invalid() {
		if got, e := span.Union(c.l); got != nil || e != c.e {
			t.Errorf("Union(%d) = %d, %d, not %d", c.l, got, e, c.e)
		}
	}
}

func TestUnionOfEveryPort(t *testing.T) {
	var even, all []api.Span
	for n := 0; n <= last; n += 2 {
		even = append(even, api.Span{Lo: n, Hi: n})
		all = append(all, api.Span{Lo: last - n, Hi: last - n}, api.Span{Lo: n, Hi: n})
	}
	if got, e := span.Union(even); !slices.Equal(got, even) || e != api.OK {
		t.Errorf("Union of the even ports = %d spans, %d", len(got), e)
	}
	if got, e := span.Union(all); !slices.Equal(got, []api.Span{span.All()}) || e != api.OK {
		t.Errorf("Union of all ports = %d spans, %d", len(got), e)
	}
}

// P8.4

func TestStarts(t *testing.T) {
	cases := []struct {
		l    []api.Span
		want []int
	}{
		{nil, []int{0}}, {[]api.Span{}, []int{0}}, {[]api.Span{{Lo: 0, Hi: 65535}}, []int{0}}, {[]api.Span{{Lo: 0, Hi: 0}}, []int{0, 1}},
		{[]api.Span{{Lo: 65535, Hi: 65535}}, []int{0, 65535}}, {[]api.Span{{Lo: 0, Hi: 65534}}, []int{0, 65535}}, {[]api.Span{{Lo: 1, Hi: 65535}}, []int{0, 1}},
		{[]api.Span{{Lo: 20, Hi: 30}, {Lo: 5, Hi: 9}, {Lo: 10, Hi: 12}}, []int{0, 5, 10, 13, 20, 31}},
		{[]api.Span{{Lo: 5, Hi: 9}, {Lo: 5, Hi: 9}, {Lo: 7, Hi: 9}, {Lo: 5, Hi: 6}}, []int{0, 5, 7, 10}},
	}
	for _, c := range cases {
		if got, e := span.Starts(c.l); !slices.Equal(got, c.want) || e != api.OK {
			t.Errorf("Starts(%d) = %d, %d, not %d", c.l, got, e, c.want)
		}
	}
	for _, l := range lists() {
		begins := [last + 2]bool{0: true}
		for _, s := range l {
			begins[s.Lo], begins[s.Hi+1] = true, true
		}
		var want []int
		for n := range last + 1 {
			if begins[n] {
				want = append(want, n)
			}
		}
		if got, e := span.Starts(l); !slices.Equal(got, want) || e != api.OK {
			t.Fatalf("Starts(%d) = %d, %d, not %d", l, got, e, want)
		}
	}
}

func TestStartsOfInvalid(t *testing.T) {
	for _, c := range invalid() {
		if got, e := span.Starts(c.l); got != nil || e != c.e {
			t.Errorf("Starts(%d) = %d, %d, not %d", c.l, got, e, c.e)
		}
	}
}

// P8.5

func TestPrint(t *testing.T) {
	cases := map[api.Span]string{
		{Lo: 0, Hi: 65535}: "*", {Lo: 0, Hi: 0}: "0", {Lo: 65535, Hi: 65535}: "65535", {Lo: 80, Hi: 80}: "80", {Lo: 0, Hi: 65534}: "0-65534",
		{Lo: 1, Hi: 65535}: "1-65535", {Lo: 5, Hi: 9}: "5-9", {Lo: 1024, Hi: 49151}: "1024-49151", {Lo: 0, Hi: 1}: "0-1",
		{Lo: 9, Hi: 5}: "", {Lo: -1, Hi: 5}: "", {Lo: 0, Hi: 65536}: "", {Lo: -1, Hi: -1}: "", {Lo: 65536, Hi: 65536}: "",
	}
	for s, want := range cases {
		if got := span.Print(s); got != want {
			t.Errorf("Print(%d) = %q, not %q", s, got, want)
		}
	}
}

// form is the form that the document asks of a text that is not a star.
var form = regexp.MustCompile(`\A(0|[1-9][0-9]{0,4})(?:-(0|[1-9][0-9]{0,4}))?\z`)

// reference tells what the document says of a text.
func reference(s string) (api.Span, api.Errno) {
	if s == "*" {
		return api.Span{Lo: 0, Hi: 65535}, api.OK
	}
	parts := form.FindStringSubmatch(s)
	if parts == nil {
		return api.Span{}, api.ErrForm
	}
	lo, _ := strconv.Atoi(parts[1])
	hi := lo
	if parts[2] != "" {
		hi, _ = strconv.Atoi(parts[2])
	}
	switch {
	case lo > 65535, hi > 65535:
		return api.Span{}, api.ErrRange
	case lo > hi:
		return api.Span{}, api.ErrOrder
	}
	return api.Span{Lo: lo, Hi: hi}, api.OK
}

func check(t *testing.T, s string) {
	t.Helper()
	want, f := reference(s)
	if got, e := span.Parse(s); got != want || e != f {
		t.Errorf("Parse(%q) = %d, %d, not %d, %d", s, got, e, want, f)
	}
}

func TestParse(t *testing.T) {
	cases := map[string]api.Span{
		"*": {Lo: 0, Hi: 65535}, "0": {}, "65535": {Lo: 65535, Hi: 65535}, "0-65535": {Lo: 0, Hi: 65535}, "5-9": {Lo: 5, Hi: 9},
		"7-7": {Lo: 7, Hi: 7}, "0-0": {}, "99-100": {Lo: 99, Hi: 100}, "65534-65535": {Lo: 65534, Hi: 65535}, "443": {Lo: 443, Hi: 443},
	}
	for s, want := range cases {
		if got, e := span.Parse(s); got != want || e != api.OK {
			t.Errorf("Parse(%q) = %d, %d, not %d", s, got, e, want)
		}
	}
}

func TestParseErrors(t *testing.T) {
	cases := map[api.Errno][]string{
		api.ErrForm: {"", "-", "--", "5-", "-5", "-5-9", "5--9", "5-9-", "5-9-12", "5-*", "*-5", "**", "* ", " *", "05", "00", "5-09", "05-9", "5-00", "0-00000",
			" 5", "5 ", "5 - 9", "5- 9", "+5", "5-+9", "5,9", "5:9", "5..9", "5.0", "0x5", "a", "5-a", "100000", "100000-5", "5-100000", "000001", "5\n", "5\x00",
			"5–9", "\u0665", "٥-٩", "99999999999999999999"},
		api.ErrRange: {"65536", "70000", "99999", "65536-65537", "5-65536", "5-99999", "70000-5", "65536-65535", "99999-0"},
		api.ErrOrder: {"20-10", "1-0", "65535-0", "65535-65534", "10-9"},
	}
	for want, texts := range cases {
		for _, s := range texts {
			if got, e := span.Parse(s); got != (api.Span{}) || e != want {
				t.Errorf("Parse(%q) = %d, %d, not %d", s, got, e, want)
			}
		}
	}
}

// The form of both numbers ranks ahead of the size of either one, and that ahead of their order.
func TestParseFormAheadOfRange(t *testing.T) {
	for s, want := range map[string]api.Errno{
		"70000-05": api.ErrForm, "70000-": api.ErrForm, "70000-x": api.ErrForm, "05-70000": api.ErrForm, "70000-100000": api.ErrForm,
		"9-05": api.ErrForm, "70000-60000": api.ErrRange, "70000-70001": api.ErrRange,
	} {
		if got, e := span.Parse(s); got != (api.Span{}) || e != want {
			t.Errorf("Parse(%q) = %d, %d, not %d", s, got, e, want)
		}
	}
}

func TestParseOfEveryNumber(t *testing.T) {
	for n := range 100100 {
		s := strconv.Itoa(n)
		check(t, s)
		if n%97 == 0 || n > 65500 && n < 65600 {
			for _, text := range []string{"0" + s, s + "-" + s, "7-" + s, s + "-7", s + "-65535", s + "-0" + s} {
				check(t, text)
			}
		}
	}
}

func TestParseOfAlmostSpans(t *testing.T) {
	for _, s := range []string{"*", "0", "80", "5-9", "0-65535", "10-20"} {
		for _, text := range almost.Texts(s) {
			check(t, text)
		}
	}
}

func TestParseOfDrawnTexts(t *testing.T) {
	draw := rand.New(rand.NewSource(9))
	const letters = "01256--9*"
	for range 200000 {
		s := make([]byte, draw.Intn(13))
		for i := range s {
			s[i] = letters[draw.Intn(len(letters))]
		}
		check(t, string(s))
	}
	for _, s := range []string{strings.Repeat("-", 1<<20), strings.Repeat("1", 1<<20), strings.Repeat("*", 1<<20), "1-" + strings.Repeat("0", 1<<20)} {
		if got, e := span.Parse(s); got != (api.Span{}) || e != api.ErrForm {
			t.Errorf("Parse of %d bytes = %d, %d", len(s), got, e)
		}
	}
}

// P8.7

func TestRest(t *testing.T) {
	cases := []struct{ l, want []api.Span }{
		{nil, []api.Span{{Lo: 0, Hi: 65535}}}, {[]api.Span{{Lo: 0, Hi: 65535}}, nil}, {[]api.Span{{Lo: 0, Hi: 0}}, []api.Span{{Lo: 1, Hi: 65535}}},
		{[]api.Span{{Lo: 65535, Hi: 65535}}, []api.Span{{Lo: 0, Hi: 65534}}}, {[]api.Span{{Lo: 1, Hi: 65534}}, []api.Span{{Lo: 0, Hi: 0}, {Lo: 65535, Hi: 65535}}},
		{[]api.Span{{Lo: 5, Hi: 9}, {Lo: 20, Hi: 30}, {Lo: 10, Hi: 12}}, []api.Span{{Lo: 0, Hi: 4}, {Lo: 13, Hi: 19}, {Lo: 31, Hi: 65535}}},
		{[]api.Span{{Lo: 0, Hi: 7}, {Lo: 9, Hi: 65535}}, []api.Span{{Lo: 8, Hi: 8}}},
	}
	for _, c := range cases {
		if got, e := span.Rest(c.l); !slices.Equal(got, c.want) || e != api.OK {
			t.Errorf("Rest(%d) = %d, %d, not %d", c.l, got, e, c.want)
		}
	}
	for _, l := range lists() {
		if got, e := span.Rest(l); !slices.Equal(got, runs(numbers(l), false)) || e != api.OK {
			t.Fatalf("Rest(%d) = %d, %d", l, got, e)
		}
	}
}

func TestRestOfInvalid(t *testing.T) {
	for _, c := range invalid() {
		if got, e := span.Rest(c.l); got != nil || e != c.e {
			t.Errorf("Rest(%d) = %d, %d, not %d", c.l, got, e, c.e)
		}
	}
}

// P8.6

func TestParseOfPrint(t *testing.T) {
	ports := []int{0, 1, 2, 9, 10, 11, 99, 100, 999, 1000, 9999, 10000, 65533, 65534, 65535}
	for _, lo := range ports {
		for _, hi := range ports {
			s := api.Span{Lo: lo, Hi: hi}
			if lo > hi {
				continue
			}
			if got, e := span.Parse(span.Print(s)); got != s || e != api.OK {
				t.Errorf("Parse of what Print tells of %d = %d, %d", s, got, e)
			}
		}
	}
}

// All numbers from one start up to the next one are in the same spans.
func TestPiecesBetweenStarts(t *testing.T) {
	l := []api.Span{{Lo: 20, Hi: 30}, {Lo: 5, Hi: 9}, {Lo: 8, Hi: 25}, {Lo: 65530, Hi: 65535}, {Lo: 26, Hi: 26}}
	starts, _ := span.Starts(l)
	piece := 0
	for n := range last + 1 {
		if piece+1 < len(starts) && starts[piece+1] == n {
			piece++
		}
		for _, s := range l {
			if span.Has(s, n) != span.Has(s, starts[piece]) {
				t.Fatalf("%d and %d are not alike in %d", n, starts[piece], s)
			}
		}
	}
}

// P8.8

func TestRestAndUnion(t *testing.T) {
	for _, l := range lists() {
		union, _ := span.Union(l)
		rest, _ := span.Rest(l)
		if got, e := span.Rest(rest); !slices.Equal(got, union) || e != api.OK {
			t.Fatalf("Rest of the Rest of %d = %d, %d, not %d", l, got, e, union)
		}
		count := 0
		for _, s := range slices.Concat(union, rest) {
			count += s.Hi - s.Lo + 1
		}
		if got, e := span.Union(slices.Concat(union, rest)); !slices.Equal(got, []api.Span{span.All()}) || e != api.OK || count != last+1 {
			t.Fatalf("Union and Rest of %d have %d ports, together %d, %d", l, count, got, e)
		}
	}
}

// P3 of the general rules

// calls are the calls that take spans.
func calls() map[string]func(l []api.Span) ([]api.Span, api.Errno) {
	return map[string]func(l []api.Span) ([]api.Span, api.Errno){
		"Union": span.Union,
		"Rest":  span.Rest,
		"Starts": func(l []api.Span) ([]api.Span, api.Errno) {
			starts, e := span.Starts(l)
			var out []api.Span
			for _, n := range starts {
				out = append(out, api.Span{Lo: n, Hi: n})
			}
			return out, e
		},
	}
}

func TestArgumentsStay(t *testing.T) {
	for name, call := range calls() {
		l := []api.Span{{Lo: 20, Hi: 30}, {Lo: 5, Hi: 9}, {Lo: 10, Hi: 12}, {Lo: 77, Hi: 88}, {Lo: 66, Hi: 99}}
		before := slices.Clone(l)
		call(l[:3])
		if !slices.Equal(l, before) {
			t.Errorf("%s left %d", name, l)
		}
	}
}

func TestResultsAreNewMemory(t *testing.T) {
	l := []api.Span{{Lo: 5, Hi: 9}, {Lo: 20, Hi: 30}}
	first, _ := span.Union(l)
	second, _ := span.Union(l)
	rest, _ := span.Rest(l)
	again, _ := span.Rest(l)
	for i := range first {
		first[i] = api.Span{Lo: 1, Hi: 1}
	}
	for i := range rest {
		rest[i] = api.Span{Lo: 2, Hi: 2}
	}
	if want := []api.Span{{Lo: 5, Hi: 9}, {Lo: 20, Hi: 30}}; !slices.Equal(l, want) || !slices.Equal(second, want) {
		t.Errorf("the list is %d, the other result %d", l, second)
	}
	if want := []api.Span{{Lo: 0, Hi: 4}, {Lo: 10, Hi: 19}, {Lo: 31, Hi: 65535}}; !slices.Equal(again, want) {
		t.Errorf("the other result of Rest is %d", again)
	}
}

func TestOnlyTheLengthCounts(t *testing.T) {
	for name, call := range calls() {
		l := []api.Span{{Lo: 20, Hi: 30}, {Lo: 5, Hi: 9}, {Lo: 9, Hi: 5}, {Lo: 0, Hi: 65535}}
		got, e := call(l[:2])
		want, f := call([]api.Span{{Lo: 20, Hi: 30}, {Lo: 5, Hi: 9}})
		if !slices.Equal(got, want) || e != f || e != api.OK {
			t.Errorf("%s = %d, %d, not %d", name, got, e, want)
		}
	}
}

// P5 of the general rules: a call answers the same whatever was called ahead of it.
func TestNothingIsKept(t *testing.T) {
	for range 3 {
		if got, e := span.Starts([]api.Span{{Lo: 7, Hi: 8}}); !slices.Equal(got, []int{0, 7, 9}) || e != api.OK {
			t.Errorf("Starts = %d, %d", got, e)
		}
		if got, e := span.Starts([]api.Span{{Lo: 8, Hi: 7}}); got != nil || e != api.ErrOrder {
			t.Errorf("Starts of an invalid span = %d, %d", got, e)
		}
		if got, e := span.Union([]api.Span{{Lo: 7, Hi: 8}}); !slices.Equal(got, []api.Span{{Lo: 7, Hi: 8}}) || e != api.OK {
			t.Errorf("Union = %d, %d", got, e)
		}
		if got, e := span.Rest([]api.Span{{Lo: 0, Hi: 65534}}); !slices.Equal(got, []api.Span{{Lo: 65535, Hi: 65535}}) || e != api.OK {
			t.Errorf("Rest = %d, %d", got, e)
		}
		if got, e := span.Parse("20-10"); got != (api.Span{}) || e != api.ErrOrder {
			t.Errorf("Parse = %d, %d", got, e)
		}
	}
}
