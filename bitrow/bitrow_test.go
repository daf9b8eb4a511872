package bitrow_test

import (
	"math"
	"math/rand"
	"slices"
	"strings"
	"testing"

	"weighbridge/almost"
	"weighbridge/api"
	"weighbridge/bitrow"
)

// most is how many bits a new row has at most.
const most = 65536

// beyond are numbers of bits of which there is no new row.
func beyond() []int {
	return []int{-1, -2, -63, -64, -65, -most, math.MinInt, math.MinInt + 1, most + 1, most + 64, 2 * most, 1 << 32, 1<<32 + 5, math.MaxInt, math.MaxInt - 63}
}

// within are numbers of bits of which there is one.
func within() []int {
	var l []int
	for n := range 333 {
		l = append(l, n)
	}
	return append(l, 1000, 1024, 65471, 65472, 65473, 65535, 65536)
}

// words tells how many words it takes for so many bits, one by one.
func words(n int) int {
	w := 0
	for 64*w < n {
		w++
	}
	return w
}

// flags tells the bits of a row one by one.
func flags(row []uint64) []bool {
	var l []bool
	for _, word := range row {
		for range 64 {
			l = append(l, word%2 == 1)
			word /= 2
		}
	}
	return l
}

// row tells the row of bits, whose number is a multiple of 64.
func row(flags []bool) []uint64 {
	l := make([]uint64, len(flags)/64)
	for i, set := range flags {
		if set {
			power := uint64(1)
			for range i % 64 {
				power *= 2
			}
			l[i/64] += power
		}
	}
	return l
}

// indices tells where bits are set.
func indices(flags []bool) []int {
	var l []int
	for i, set := range flags {
		if set {
			l = append(l, i)
		}
	}
	return l
}

// rows are rows of all sorts: with no bits, one, some and all, and of up to so many words; the drawn ones are the same in each run.
func rows() [][]uint64 {
	full := uint64(math.MaxUint64)
	l := [][]uint64{nil, {}, {0}, {1}, {2}, {3}, {1 << 63}, {1<<63 | 1}, {full}, {full - 1}, {0, 0}, {0, 1}, {1, 0}, {0, 1 << 63}, {1 << 63, 1}, {full, full}, {full, 0}, {0, full}, {0, 0, 0, 1 << 40}, {1 << 63, 0, 0, 0}, {0, 0, full, 0}}
	draw := rand.New(rand.NewSource(18))
	for range 120 {
		drawn := make([]uint64, draw.Intn(7))
		thin := draw.Intn(4)
		for w := range drawn {
			drawn[w] = draw.Uint64()
			for range thin {
				drawn[w] &= draw.Uint64()
			}
			if draw.Intn(5) == 0 {
				drawn[w] = 0
			}
		}
		l = append(l, drawn)
	}
	return l
}

// long is a row of more bits than a new one has.
func long() []uint64 {
	l := make([]uint64, 3000)
	l[1024], l[1500], l[2999] = 1, 1<<17|1<<18, 1<<63
	return l
}

// places are indices inside a row of so many bits, and around it.
func places(n int) []int {
	l := beyond()
	for i := -70; i < min(n, 400)+70; i++ {
		l = append(l, i)
	}
	return append(l, n-65, n-64, n-1, n, n+1, n+63, n+64)
}

// P18.1

func TestNew(t *testing.T) {
	for _, n := range within() {
		if got := bitrow.New(n); !slices.Equal(got, make([]uint64, words(n))) {
			t.Errorf("New(%d) = %x", n, got)
		}
	}
	for _, n := range beyond() {
		if got := bitrow.New(n); len(got) != 0 {
			t.Errorf("New(%d) has %d words", n, len(got))
		}
	}
}

func TestAll(t *testing.T) {
	if got := bitrow.All(66); !slices.Equal(got, []uint64{math.MaxUint64, 3}) {
		t.Errorf("All(66) = %x", got)
	}
	for _, n := range within() {
		want := make([]bool, 64*words(n))
		for i := range n {
			want[i] = true
		}
		if got := bitrow.All(n); !slices.Equal(got, row(want)) {
			t.Errorf("All(%d) = %x", n, got)
		}
	}
	for _, n := range beyond() {
		if got := bitrow.All(n); len(got) != 0 {
			t.Errorf("All(%d) has %d words", n, len(got))
		}
	}
}

// P18.2

func TestSet(t *testing.T) {
	if got := bitrow.Set(bitrow.New(70), 69); !slices.Equal(got, []uint64{0, 32}) {
		t.Errorf("Set(New(70), 69) = %x", got)
	}
	for _, r := range append(rows(), long()) {
		for _, i := range places(64 * len(r)) {
			want := flags(r)
			if 0 <= i && i < len(want) {
				want[i] = true
			}
			if got := bitrow.Set(r, i); !slices.Equal(got, row(want)) {
				t.Fatalf("Set(%x, %d) = %x", r, i, got)
			}
		}
	}
}

func TestHas(t *testing.T) {
	for _, r := range append(rows(), long()) {
		all := flags(r)
		for _, i := range places(64 * len(r)) {
			want := 0 <= i && i < len(all) && all[i]
			if got := bitrow.Has(r, i); got != want {
				t.Fatalf("Has(%x, %d) = %v", r, i, got)
			}
		}
	}
}

func TestOneBit(t *testing.T) {
	for i := range 320 {
		r := bitrow.Set(bitrow.New(320), i)
		for other := -1; other <= 320; other++ {
			if got := bitrow.Has(r, other); got != (other == i) {
				t.Fatalf("Has(Set(New(320), %d), %d) = %v", i, other, got)
			}
		}
	}
}

// P18.3

// both tells by their bits one by one what And and Or tell of rows.
func both(rows ...[]uint64) ([]uint64, []uint64) {
	shortest, longest := 0, 0
	for i, r := range rows {
		if i == 0 || len(r) < shortest {
			shortest = len(r)
		}
		if len(r) > longest {
			longest = len(r)
		}
	}
	and, or := make([]bool, 64*shortest), make([]bool, 64*longest)
	for i := range and {
		and[i] = true
	}
	for _, r := range rows {
		for i, set := range flags(r) {
			if i < len(and) && !set {
				and[i] = false
			}
			if set {
				or[i] = true
			}
		}
	}
	return row(and), row(or)
}

// check holds And and Or of rows.
func check(t *testing.T, rows ...[]uint64) {
	t.Helper()
	and, or := both(rows...)
	if got := bitrow.And(rows...); !slices.Equal(got, and) {
		t.Fatalf("And(%x) = %x, not %x", rows, got, and)
	}
	if got := bitrow.Or(rows...); !slices.Equal(got, or) {
		t.Fatalf("Or(%x) = %x, not %x", rows, got, or)
	}
}

func TestAndOr(t *testing.T) {
	cases := []struct {
		rows    [][]uint64
		and, or []uint64
	}{
		{nil, nil, nil}, {[][]uint64{}, nil, nil}, {[][]uint64{nil}, nil, nil}, {[][]uint64{{5, 6}}, []uint64{5, 6}, []uint64{5, 6}},
		{[][]uint64{{12}, {10}}, []uint64{8}, []uint64{14}}, {[][]uint64{{12, 7}, {10}}, []uint64{8}, []uint64{14, 7}}, {[][]uint64{{12}, {10, 7}}, []uint64{8}, []uint64{14, 7}},
		{[][]uint64{{7, 1}, {6, 9, 8}, {12, 3}}, []uint64{4, 1}, []uint64{15, 11, 8}}, {[][]uint64{{7, 1}, nil, {3}}, nil, []uint64{7, 1}}, {[][]uint64{nil, {1}}, nil, []uint64{1}},
		{[][]uint64{{1}, {2}, {4}}, []uint64{0}, []uint64{7}},
	}
	for _, c := range cases {
		if got := bitrow.And(c.rows...); !slices.Equal(got, c.and) {
			t.Errorf("And(%x) = %x", c.rows, got)
		}
		if got := bitrow.Or(c.rows...); !slices.Equal(got, c.or) {
			t.Errorf("Or(%x) = %x", c.rows, got)
		}
	}
}

func TestAndOrOfDrawnRows(t *testing.T) {
	all := rows()
	for _, a := range all {
		check(t, a)
		check(t, a, long())
		check(t, long(), a)
		for _, b := range all {
			check(t, a, b)
		}
	}
	draw := rand.New(rand.NewSource(183))
	for range 2000 {
		l := make([][]uint64, draw.Intn(9))
		for i := range l {
			l[i] = all[draw.Intn(len(all))]
		}
		check(t, l...)
	}
	many := make([][]uint64, 3000)
	for i := range many {
		many[i] = []uint64{math.MaxUint64 - 1<<(i%64), 1 << (i % 60)}
	}
	check(t, many...)
	check(t, many[:10]...)
}

// P18.4

func TestFirstCountList(t *testing.T) {
	for _, r := range append(rows(), long(), bitrow.All(most), bitrow.All(most-1), bitrow.New(most)) {
		l := indices(flags(r))
		first := -1
		if len(l) > 0 {
			first = l[0]
		}
		if got := bitrow.First(r); got != first {
			t.Errorf("First(%x) = %d, not %d", r, got, first)
		}
		if got := bitrow.Count(r); got != len(l) {
			t.Errorf("Count(%x) = %d, not %d", r, got, len(l))
		}
		if got := bitrow.List(r); !slices.Equal(got, l) {
			t.Errorf("List(%x) = %d, not %d", r, got, l)
		}
	}
}

func TestFirstCountListOfOneBit(t *testing.T) {
	for i := range 400 {
		r := bitrow.Set(bitrow.New(400), i)
		if first, n, l := bitrow.First(r), bitrow.Count(r), bitrow.List(r); first != i || n != 1 || !slices.Equal(l, []int{i}) {
			t.Errorf("of bit %d First = %d, Count = %d, List = %d", i, first, n, l)
		}
		r = bitrow.Set(r, 399)
		if first, n, l := bitrow.First(r), bitrow.Count(r), bitrow.List(r); first != i || n != len(l) || l[0] != i || l[n-1] != 399 {
			t.Errorf("of bits %d and 399 First = %d, Count = %d, List = %d", i, first, n, l)
		}
	}
}

// P18.5

func TestSetOfList(t *testing.T) {
	for _, r := range append(rows(), bitrow.All(500)) {
		got := bitrow.New(64 * len(r))
		for _, i := range bitrow.List(r) {
			got = bitrow.Set(got, i)
		}
		if !slices.Equal(got, r) {
			t.Errorf("of the bits of %x came %x", r, got)
		}
	}
}

func TestCountsAddUp(t *testing.T) {
	for _, a := range rows() {
		for _, b := range rows() {
			if len(a) != len(b) {
				continue
			}
			if got, want := bitrow.Count(bitrow.And(a, b))+bitrow.Count(bitrow.Or(a, b)), bitrow.Count(a)+bitrow.Count(b); got != want {
				t.Fatalf("And and Or of %x and %x have %d bits, not %d", a, b, got, want)
			}
		}
	}
}

// P18.6

func TestText(t *testing.T) {
	cases := []struct {
		row  []uint64
		n    int
		want string
	}{
		{nil, 0, ""}, {nil, 3, "000"}, {[]uint64{}, 1, "0"}, {[]uint64{1}, 0, ""}, {[]uint64{1}, 1, "1"}, {[]uint64{2}, 1, "0"}, {[]uint64{6}, 4, "0110"}, {[]uint64{6}, 2, "01"},
		{[]uint64{5}, 66, "101" + strings.Repeat("0", 63)}, {[]uint64{1 << 63, 1}, 66, strings.Repeat("0", 63) + "110"}, {[]uint64{0, 32}, 70, strings.Repeat("0", 69) + "1"},
		{[]uint64{math.MaxUint64}, 70, strings.Repeat("1", 64) + "000000"}, {[]uint64{0, math.MaxUint64}, 64, strings.Repeat("0", 64)},
	}
	for _, c := range cases {
		if got := bitrow.Text(c.row, c.n); got != c.want {
			t.Errorf("Text(%x, %d) = %q, not %q", c.row, c.n, got, c.want)
		}
	}
}

func TestTextOfEveryLength(t *testing.T) {
	for _, r := range append(rows(), long()) {
		all := flags(r)
		for _, n := range within() {
			want := make([]byte, n)
			for i := range want {
				want[i] = '0'
				if i < len(all) && all[i] {
					want[i] = '1'
				}
			}
			if got := bitrow.Text(r, n); got != string(want) {
				t.Fatalf("Text(%x, %d) = %q", r, n, got)
			}
		}
		for _, n := range beyond() {
			if got := bitrow.Text(r, n); got != "" {
				t.Fatalf("Text(%x, %d) has %d digits", r, n, len(got))
			}
		}
	}
}

// reference tells what the document says of a text that is not too long.
func reference(s string) ([]uint64, api.Fault) {
	all := make([]bool, 64*words(len(s)))
	for i, c := range []byte(s) {
		if !strings.Contains("01", string(rune(c))) {
			return nil, api.Fault{Errno: api.ErrForm, At: i}
		}
		all[i] = c == '1'
	}
	return row(all), api.Fault{}
}

// checkParse holds Parse of a text that is not too long.
func checkParse(t *testing.T, s string) {
	t.Helper()
	want, fault := reference(s)
	if got, f := bitrow.Parse(s); !slices.Equal(got, want) || f != fault {
		t.Fatalf("Parse(%q) = %x, %d, not %x, %d", s, got, f, want, fault)
	}
}

func TestParse(t *testing.T) {
	cases := []struct {
		s    string
		want []uint64
	}{
		{"", nil}, {"0", []uint64{0}}, {"1", []uint64{1}}, {"0110", []uint64{6}}, {"100", []uint64{1}}, {"001", []uint64{4}}, {strings.Repeat("1", 64), []uint64{math.MaxUint64}},
		{strings.Repeat("1", 66), []uint64{math.MaxUint64, 3}}, {strings.Repeat("0", 69) + "1", []uint64{0, 32}}, {strings.Repeat("0", 65), []uint64{0, 0}},
		{strings.Repeat("0", 63) + "1", []uint64{1 << 63}}, {strings.Repeat("0", 64) + "1", []uint64{0, 1}},
	}
	for _, c := range cases {
		if got, f := bitrow.Parse(c.s); !slices.Equal(got, c.want) || f != (api.Fault{}) {
			t.Errorf("Parse(%q) = %x, %d, not %x", c.s, got, f, c.want)
		}
	}
}

func TestParseForm(t *testing.T) {
	cases := map[string]int{
		"2": 0, " ": 0, "x01": 0, "/": 0, ":": 0, "\x00": 0, "\xff": 0, "-1": 0, "+1": 0, "\u0661": 0, "１": 0, "012": 2, "01 ": 2, "0 1": 1, "01\n": 2, "2222": 0, "0202": 1, "01010101x": 8,
		strings.Repeat("0", 64) + "*": 64, strings.Repeat("1", 65535) + "a": 65535, "1" + strings.Repeat("9", 65535): 1,
	}
	for s, at := range cases {
		if got, f := bitrow.Parse(s); got != nil || f != (api.Fault{Errno: api.ErrForm, At: at}) {
			t.Errorf("Parse of %d bytes = %x, %d, not at %d", len(s), got, f, at)
		}
	}
}

func TestParseOfAlmostRows(t *testing.T) {
	for _, s := range []string{"", "0", "1", "0110", strings.Repeat("10", 33)} {
		for _, text := range almost.Texts(s) {
			checkParse(t, text)
		}
	}
}

func TestParseLong(t *testing.T) {
	for _, c := range []string{"0", "1"} {
		for _, n := range []int{most - 1, most} {
			checkParse(t, strings.Repeat(c, n))
		}
	}
	// That it is too long ranks ahead of what is in it.
	for _, s := range []string{strings.Repeat("0", most+1), strings.Repeat("1", most+1), strings.Repeat("x", most+1), "2" + strings.Repeat("0", most), strings.Repeat("1", most) + "2", strings.Repeat("01", 1<<20)} {
		if got, f := bitrow.Parse(s); got != nil || f != (api.Fault{Errno: api.ErrLong, At: most}) {
			t.Errorf("Parse of %d bytes has %d words, %d", len(s), len(got), f)
		}
	}
}

func TestParseOfText(t *testing.T) {
	for _, r := range rows() {
		if got, f := bitrow.Parse(bitrow.Text(r, 64*len(r))); !slices.Equal(got, r) || f != (api.Fault{}) {
			t.Errorf("Parse of the Text of %x = %x, %d", r, got, f)
		}
	}
	draw := rand.New(rand.NewSource(186))
	for range 3000 {
		s := make([]byte, draw.Intn(200))
		for i := range s {
			s[i] = "01"[draw.Intn(2)]
		}
		checkParse(t, string(s))
		r, _ := bitrow.Parse(string(s))
		if got := bitrow.Text(r, len(s)); got != string(s) {
			t.Fatalf("Text of Parse(%q) = %q", s, got)
		}
	}
}

// P3 of the general rules

func TestArgumentsStay(t *testing.T) {
	back := []uint64{5, 6, 7, 8, 9}
	other := []uint64{1, 2, 4}
	list := [][]uint64{back[:2], other[:1], back[:3], {99}}
	bitrow.Set(back[:2], 3)
	bitrow.Set(back[:2], 128)
	bitrow.And(list[:3]...)
	bitrow.Or(list[:3]...)
	bitrow.And(back[:2])
	bitrow.Or(back[:2])
	bitrow.First(back[:2])
	bitrow.Count(back[:2])
	bitrow.List(back[:2])
	bitrow.Text(back[:2], 200)
	if !slices.Equal(back, []uint64{5, 6, 7, 8, 9}) || !slices.Equal(other, []uint64{1, 2, 4}) {
		t.Errorf("the rows became %x and %x", back, other)
	}
	if len(list[0]) != 2 || len(list[1]) != 1 || len(list[2]) != 3 || &list[0][0] != &back[0] || &list[1][0] != &other[0] || &list[2][0] != &back[0] || list[3][0] != 99 {
		t.Errorf("the list became %x", list)
	}
}

func TestResultsAreNewMemory(t *testing.T) {
	r := []uint64{5, 6, 7}
	calls := map[string]func() []uint64{
		"New": func() []uint64 { return bitrow.New(192) }, "All": func() []uint64 { return bitrow.All(192) },
		"Set": func() []uint64 { return bitrow.Set(r, 3) }, "Set of no bit": func() []uint64 { return bitrow.Set(r, -1) }, "Set of a bit that is set": func() []uint64 { return bitrow.Set(r, 0) },
		"And of one": func() []uint64 { return bitrow.And(r) }, "Or of one": func() []uint64 { return bitrow.Or(r) }, "And": func() []uint64 { return bitrow.And(r, r) }, "Or": func() []uint64 { return bitrow.Or(r, r, nil) },
		"Parse": func() []uint64 { l, _ := bitrow.Parse(strings.Repeat("1", 192)); return l },
	}
	for name, call := range calls {
		first, second := call(), call()
		before := slices.Clone(second)
		for i := range first {
			first[i] = 77
		}
		if !slices.Equal(second, before) || !slices.Equal(r, []uint64{5, 6, 7}) {
			t.Errorf("%s shares memory: %x, %x", name, second, r)
		}
	}
	l := bitrow.List(r)
	l[0] = 9
	if got := bitrow.List(r); !slices.Equal(got, []int{0, 2, 65, 66, 128, 129, 130}) {
		t.Errorf("List = %d", got)
	}
}

// Words behind the length of a row are no part of it.
func TestOnlyTheLengthCounts(t *testing.T) {
	r := []uint64{4, math.MaxUint64, math.MaxUint64}[:1]
	if bitrow.Has(r, 64) || bitrow.Has(r, 128) || !bitrow.Has(r, 2) {
		t.Error("Has tells of words behind the row")
	}
	if got := bitrow.Set(r, 64); !slices.Equal(got, []uint64{4}) {
		t.Errorf("Set = %x", got)
	}
	if first, n, l := bitrow.First(r[:0]), bitrow.Count(r), bitrow.List(r); first != -1 || n != 1 || !slices.Equal(l, []int{2}) {
		t.Errorf("First = %d, Count = %d, List = %d", first, n, l)
	}
	if got := bitrow.Text(r, 66); got != "001"+strings.Repeat("0", 63) {
		t.Errorf("Text = %q", got)
	}
	if and, or := bitrow.And(r, []uint64{7, 7}), bitrow.Or(r, []uint64{1, 1}); !slices.Equal(and, []uint64{4}) || !slices.Equal(or, []uint64{5, 1}) {
		t.Errorf("And = %x, Or = %x", and, or)
	}
}

// P5 of the general rules: a call answers the same whatever was called ahead of it.
func TestNothingIsKept(t *testing.T) {
	for range 3 {
		if got := bitrow.New(70); !slices.Equal(got, []uint64{0, 0}) {
			t.Errorf("New = %x", got)
		}
		if got := bitrow.All(3); !slices.Equal(got, []uint64{7}) {
			t.Errorf("All = %x", got)
		}
		if got := bitrow.Set(nil, 0); len(got) != 0 {
			t.Errorf("Set = %x", got)
		}
		if and, or := bitrow.And([]uint64{12}, []uint64{10}), bitrow.Or([]uint64{12}, []uint64{10}); and[0] != 8 || or[0] != 14 {
			t.Errorf("And = %x, Or = %x", and, or)
		}
		if got, f := bitrow.Parse("012"); got != nil || f != (api.Fault{Errno: api.ErrForm, At: 2}) {
			t.Errorf("Parse = %x, %d", got, f)
		}
		if got, f := bitrow.Parse("01"); !slices.Equal(got, []uint64{2}) || f != (api.Fault{}) {
			t.Errorf("Parse = %x, %d", got, f)
		}
	}
}
