package prefix_test

import (
	"bytes"
	"fmt"
	"math"
	"math/big"
	"math/rand"
	"net/netip"
	"regexp"
	"slices"
	"strconv"
	"strings"
	"testing"

	"weighbridge/almost"
	"weighbridge/api"
	"weighbridge/prefix"
)

// size is how many bits an address of a version has.
var size = map[int]int{4: 32, 6: 128}

// versions are those of addresses.
func versions() []int {
	return []int{4, 6}
}

// full is the address whose bits are all set.
func full() [16]byte {
	return [16]byte{255, 255, 255, 255, 255, 255, 255, 255, 255, 255, 255, 255, 255, 255, 255, 255}
}

// text tells an address's bits as digits.
func text(a [16]byte) string {
	var out strings.Builder
	for _, x := range a {
		fmt.Fprintf(&out, "%08b", x)
	}
	return out.String()
}

// address tells the address with those bits, and 0 behind them.
func address(bits string) [16]byte {
	var a [16]byte
	for i := range bits {
		if bits[i] == '1' {
			a[i/8] |= 128 >> (i % 8)
		}
	}
	return a
}

// of tells the prefix of a version with those bits.
func of(v int, bits string) api.Prefix {
	return api.Prefix{V: v, Addr: address(bits), Len: len(bits)}
}

// parsed tells a prefix from its text, by the library.
func parsed(s string) api.Prefix {
	p := netip.MustParsePrefix(s)
	out := api.Prefix{V: 6, Len: p.Bits()}
	copy(out.Addr[:], p.Addr().AsSlice())
	if p.Addr().Is4() {
		out.V = 4
	}
	return out
}

func parsedAll(texts ...string) []api.Prefix {
	var l []api.Prefix
	for _, s := range texts {
		l = append(l, parsed(s))
	}
	return l
}

// drawn are addresses, the same ones in each run: some have long runs of equal bits.
func drawn(seed int64, count int) [][16]byte {
	draw := rand.New(rand.NewSource(seed))
	l := [][16]byte{{}, full(), {15: 1}, {0: 128}, {3: 1}, {4: 128}, {10, 32, 0, 1}, {4: 255, 15: 255}}
	for range count {
		var a, runs [16]byte
		draw.Read(a[:])
		bit := 0
		for i := range runs {
			if draw.Intn(4) == 0 {
				bit = draw.Intn(256)
			}
			runs[i] = byte(bit)
		}
		l = append(l, a, runs)
	}
	return l
}

// valid are prefixes of each version and each length.
func valid() []api.Prefix {
	var l []api.Prefix
	for _, a := range drawn(10, 3) {
		for _, v := range versions() {
			for n := range size[v] + 1 {
				l = append(l, of(v, text(a)[:n]))
			}
		}
	}
	return l
}

// invalid are prefixes that are not valid, by what is wrong with them.
func invalid() map[api.Errno][]api.Prefix {
	return map[api.Errno][]api.Prefix{
		api.ErrVersion: {{}, {V: 0, Len: 8}, {V: 1}, {V: 3}, {V: 5}, {V: 7}, {V: -4}, {V: 46}, {V: math.MaxInt}, {V: math.MinInt, Len: math.MinInt}, {V: 5, Len: -1, Addr: full()}},
		api.ErrRange: {{V: 4, Len: -1}, {V: 6, Len: -1}, {V: 4, Len: 33}, {V: 4, Len: 128}, {V: 6, Len: 129}, {V: 4, Len: math.MaxInt}, {V: 6, Len: math.MinInt},
			{V: 4, Len: 33, Addr: full()}, {V: 6, Len: -1, Addr: full()}, {V: 4, Len: 256}},
		api.ErrBits: {{V: 4, Addr: [16]byte{10, 32, 0, 1}, Len: 11}, {V: 4, Addr: [16]byte{0: 128}}, {V: 4, Addr: [16]byte{4: 128}, Len: 32}, {V: 4, Addr: [16]byte{15: 1}, Len: 32},
			{V: 4, Addr: [16]byte{3: 1}, Len: 31}, {V: 6, Addr: [16]byte{15: 1}, Len: 127}, {V: 6, Addr: [16]byte{0: 128}}, {V: 6, Addr: full(), Len: 64}, {V: 4, Addr: full(), Len: 32}},
	}
}

// P7.1

func TestCheckOfInvalid(t *testing.T) {
	for want, l := range invalid() {
		for _, p := range l {
			if got := prefix.Check(p); got != want {
				t.Errorf("Check(%v) = %d, not %d", p, got, want)
			}
		}
	}
}

func TestCheckOfEveryBit(t *testing.T) {
	for _, v := range versions() {
		for n := -2; n <= 131; n++ {
			for at := range 128 {
				p := api.Prefix{V: v, Len: n, Addr: address(strings.Repeat("0", at) + "1")}
				want := api.OK
				switch {
				case n < 0, n > size[v]:
					want = api.ErrRange
				case at >= n:
					want = api.ErrBits
				}
				if got := prefix.Check(p); got != want {
					t.Fatalf("Check(%v) = %d, not %d", p, got, want)
				}
			}
		}
	}
	for _, p := range valid() {
		if got := prefix.Check(p); got != api.OK {
			t.Fatalf("Check(%v) = %d", p, got)
		}
	}
}

// P7.2

func TestMake(t *testing.T) {
	for _, a := range drawn(11, 5) {
		for v := -1; v <= 8; v++ {
			for _, n := range append([]int{-1, math.MinInt, math.MaxInt, 256}, numbers(131)...) {
				var want api.Prefix
				f := api.OK
				switch most, ok := size[v]; {
				case !ok:
					f = api.ErrVersion
				case n < 0, n > most:
					f = api.ErrRange
				default:
					want = of(v, text(a)[:n])
				}
				if got, e := prefix.Make(v, a, n); got != want || e != f {
					t.Fatalf("Make(%d, %x, %d) = %v, %d, not %v, %d", v, a, n, got, e, want, f)
				}
			}
		}
	}
}

// numbers are those from 0 on, so many.
func numbers(n int) []int {
	var l []int
	for i := range n {
		l = append(l, i)
	}
	return l
}

func TestMakeOfFourIgnoresTheOtherBytes(t *testing.T) {
	a := [16]byte{10, 32, 0, 1, 9, 9, 9, 9, 9, 9, 9, 9, 9, 9, 9, 9}
	if got, e := prefix.Make(4, a, 32); got != (api.Prefix{V: 4, Addr: [16]byte{10, 32, 0, 1}, Len: 32}) || e != api.OK {
		t.Errorf("Make = %v, %d", got, e)
	}
}

func TestAll(t *testing.T) {
	for _, v := range []int{4, 6, 0, 5, -1} {
		if got := prefix.All(v); got != (api.Prefix{V: v}) {
			t.Errorf("All(%d) = %v", v, got)
		}
	}
}

// P7.3

func TestHas(t *testing.T) {
	cases := []struct {
		p    string
		a    [16]byte
		want bool
	}{
		{"10.32.0.0/11", [16]byte{10, 32, 0, 1}, true}, {"10.32.0.0/11", [16]byte{10, 63, 255, 255, 7, 15: 9}, true}, {"10.32.0.0/11", [16]byte{10, 64}, false},
		{"10.32.0.0/11", [16]byte{10, 31, 255, 255}, false}, {"0.0.0.0/0", full(), true}, {"1.2.3.4/32", [16]byte{1, 2, 3, 4, 5}, true}, {"1.2.3.4/32", [16]byte{1, 2, 3, 5}, false},
	}
	for _, c := range cases {
		if got := prefix.Has(parsed(c.p), 4, c.a); got != c.want {
			t.Errorf("Has(%s, 4, %x) = %v", c.p, c.a, got)
		}
	}
}

// Each bit of the prefix counts, and none behind it.
func TestHasOfEveryBit(t *testing.T) {
	for _, p := range valid() {
		for at := range 128 {
			a := p.Addr
			a[at/8] ^= 128 >> (at % 8)
			if got := prefix.Has(p, p.V, a); got != (at >= p.Len) {
				t.Fatalf("Has(%v, %x) = %v", p, a, got)
			}
		}
		for _, v := range []int{10 - p.V, 0, 5, -p.V} {
			if prefix.Has(p, v, p.Addr) {
				t.Fatalf("Has(%v, %d) is true", p, v)
			}
		}
	}
}

func TestHasOfInvalid(t *testing.T) {
	for _, l := range invalid() {
		for _, p := range l {
			if prefix.Has(p, p.V, p.Addr) || prefix.Has(p, 4, p.Addr) || prefix.Has(p, 6, [16]byte{}) {
				t.Errorf("Has(%v) is true", p)
			}
		}
	}
}

// P7.4

func TestWithinAndMeet(t *testing.T) {
	l := valid()[:330]
	l = append(l, parsedAll("0.0.0.0/0", "::/0", "10.0.0.0/8", "10.32.0.0/11", "10.48.0.0/12", "10.32.0.0/12", "2001:db8::/32", "2001:db8::1/128", "10.32.0.1/32")...)
	for _, a := range l {
		for _, b := range l {
			ab := a.V == b.V && strings.HasPrefix(text(a.Addr)[:a.Len], text(b.Addr)[:b.Len])
			ba := a.V == b.V && strings.HasPrefix(text(b.Addr)[:b.Len], text(a.Addr)[:a.Len])
			if got := prefix.Within(a, b); got != ab {
				t.Fatalf("Within(%v, %v) = %v", a, b, got)
			}
			if got := prefix.Meet(a, b); got != (ab || ba) {
				t.Fatalf("Meet(%v, %v) = %v", a, b, got)
			}
		}
	}
}

func TestWithinAndMeetOfInvalid(t *testing.T) {
	good := append(parsedAll("0.0.0.0/0", "::/0", "10.0.0.0/8", "0.0.0.0/32", "::/128"), valid()...)
	for _, l := range invalid() {
		for _, p := range l {
			for _, q := range append(good, p) {
				if prefix.Within(p, q) || prefix.Within(q, p) || prefix.Meet(p, q) || prefix.Meet(q, p) {
					t.Fatalf("%v and %v", p, q)
				}
			}
		}
	}
}

// P7.5

func TestLast(t *testing.T) {
	for _, p := range valid() {
		want := address(text(p.Addr)[:p.Len] + strings.Repeat("1", size[p.V]-p.Len))
		if got := prefix.Last(p); got != want {
			t.Fatalf("Last(%v) = %x, not %x", p, got, want)
		}
	}
	for _, l := range invalid() {
		for _, p := range l {
			if got := prefix.Last(p); got != [16]byte{} {
				t.Errorf("Last(%v) = %x", p, got)
			}
		}
	}
}

func TestHalves(t *testing.T) {
	low, high, ok := prefix.Halves(parsed("10.32.0.0/11"))
	if low != parsed("10.32.0.0/12") || high != parsed("10.48.0.0/12") || !ok {
		t.Errorf("Halves = %v, %v, %v", low, high, ok)
	}
	for _, p := range valid() {
		var one, other api.Prefix
		longer := p.Len < size[p.V]
		if longer {
			one, other = of(p.V, text(p.Addr)[:p.Len]+"0"), of(p.V, text(p.Addr)[:p.Len]+"1")
		}
		if low, high, ok := prefix.Halves(p); low != one || high != other || ok != longer {
			t.Fatalf("Halves(%v) = %v, %v, %v", p, low, high, ok)
		}
	}
	for _, l := range invalid() {
		for _, p := range l {
			if low, high, ok := prefix.Halves(p); low != (api.Prefix{}) || high != (api.Prefix{}) || ok {
				t.Errorf("Halves(%v) = %v, %v, %v", p, low, high, ok)
			}
		}
	}
}

// P7.6

func TestPrint(t *testing.T) {
	for _, s := range []string{
		"0.0.0.0/0", "10.32.0.0/11", "1.2.3.4/32", "255.255.255.255/32", "128.0.0.0/1", "10.0.0.0/9", "10.0.0.0/10",
		"::/0", "::/128", "2001:db8::/32", "2001:db8::1:0:0:1/128", "8000::/1", "fe80::/10", "::1/128", "1:2:3:4:5:6:7:8/128", "::/99", "::/100", "::/96",
	} {
		if got := prefix.Print(parsed(s)); got != s {
			t.Errorf("Print = %q, not %q", got, s)
		}
	}
	for _, l := range invalid() {
		for _, p := range l {
			if got := prefix.Print(p); got != "" {
				t.Errorf("Print(%v) = %q", p, got)
			}
		}
	}
}

// length is the form that the document asks of the digits.
var length = regexp.MustCompile(`\A(0|[1-9][0-9]{0,2})\z`)

// reference tells what the document says of a text, by the library's addresses.
func reference(s string) (api.Prefix, api.Errno) {
	parts := strings.Split(s, "/")
	if len(parts) != 2 || !length.MatchString(parts[1]) || strings.Contains(parts[0], "%") {
		return api.Prefix{}, api.ErrForm
	}
	a, err := netip.ParseAddr(parts[0])
	if err != nil {
		return api.Prefix{}, api.ErrForm
	}
	p := api.Prefix{V: 6}
	if a.Is4() {
		p.V = 4
	}
	copy(p.Addr[:], a.AsSlice())
	p.Len, _ = strconv.Atoi(parts[1])
	switch {
	case p.Len > size[p.V]:
		return api.Prefix{}, api.ErrRange
	case strings.Contains(text(p.Addr)[p.Len:], "1"):
		return api.Prefix{}, api.ErrBits
	}
	return p, api.OK
}

func check(t *testing.T, s string) {
	t.Helper()
	want, f := reference(s)
	if got, e := prefix.Parse(s); got != want || e != f {
		t.Errorf("Parse(%q) = %v, %d, not %v, %d", s, got, e, want, f)
	}
}

func TestParse(t *testing.T) {
	cases := map[string]api.Prefix{
		"0.0.0.0/0": {V: 4}, "10.32.0.0/11": {V: 4, Addr: [16]byte{10, 32}, Len: 11}, "1.2.3.4/32": {V: 4, Addr: [16]byte{1, 2, 3, 4}, Len: 32},
		"::/0": {V: 6}, "::/128": {V: 6, Len: 128}, "2001:DB8::/32": {V: 6, Addr: [16]byte{0x20, 1, 0x0d, 0xb8}, Len: 32}, "::1/128": {V: 6, Addr: [16]byte{15: 1}, Len: 128},
		"0:0::0/100": {V: 6, Len: 100}, "::ffff:1.2.3.4/128": {V: 6, Addr: [16]byte{10: 255, 11: 255, 12: 1, 13: 2, 14: 3, 15: 4}, Len: 128},
	}
	for s, want := range cases {
		if got, e := prefix.Parse(s); got != want || e != api.OK {
			t.Errorf("Parse(%q) = %v, %d, not %v", s, got, e, want)
		}
	}
}

func TestParseErrors(t *testing.T) {
	cases := map[api.Errno][]string{
		api.ErrForm: {"", "/", "//", "10.0.0.0", "::", "10.0.0.0/", "/8", "10.0.0.0//8", "10.0.0.0/8/", "/10.0.0.0/8", "10.0.0.0/8/8", "10.0.0/8", "10/8", "10.0.0.0.0/8",
			"10.0.0.0/08", "10.0.0.0/00", "10.0.0.0/008", "::/000", "::/064", "10.0.0.0/1000", "::/1280", "10.0.0.0/+8", "10.0.0.0/-1", "10.0.0.0/ 8", "10.0.0.0 /8", " 10.0.0.0/8",
			"10.0.0.0/8 ", "10.0.0.0/0x8", "10.0.0.0/a", "10.0.0.0/8a", "10.0.0.0/255.0.0.0", "256.0.0.0/8", "10.0.0.256/32", "01.0.0.0/8", ":::/8", "1::2::3/64", "1:2/64", "12345::/16",
			"g::/16", "::/8\n", "fe80::1%eth0/128", "[::]/0", "*", "10.0.0.0\\8", "::256.0.0.0/128"},
		api.ErrRange: {"10.0.0.0/33", "0.0.0.0/128", "10.0.0.1/99", "1.2.3.4/999", "::/129", "::/999", "::1/200", "255.255.255.255/33"},
		api.ErrBits:  {"10.32.0.1/11", "1.2.3.5/31", "1.2.3.4/0", "0.0.0.1/31", "128.0.0.0/0", "::1/127", "::1/0", "2001:db8::1/32", "8000::/0", "ffff::/15"},
	}
	for want, texts := range cases {
		for _, s := range texts {
			if got, e := prefix.Parse(s); got != (api.Prefix{}) || e != want {
				t.Errorf("Parse(%q) = %v, %d, not %d", s, got, e, want)
			}
		}
	}
}

func TestParseOfEveryLength(t *testing.T) {
	for n := range 1100 {
		for _, a := range []string{"0.0.0.0", "::", "10.32.0.0", "255.255.255.255", "2001:db8::", "1:2:3:4:5:6:7:8"} {
			for _, zeros := range []string{"", "0", "00"} {
				check(t, a+"/"+zeros+strconv.Itoa(n))
			}
		}
	}
}

func TestParseOfAlmostPrefixes(t *testing.T) {
	for _, s := range []string{"0.0.0.0/0", "10.32.0.0/11", "192.168.1.255/32", "::/0", "2001:db8::/32", "::1.2.3.4/128"} {
		for _, text := range almost.Texts(s) {
			check(t, text)
		}
	}
	for _, s := range []string{strings.Repeat("/", 1<<20), "::/" + strings.Repeat("1", 1<<20), strings.Repeat("1", 1<<20) + "/8", strings.Repeat(":", 1<<20) + "/8"} {
		if got, e := prefix.Parse(s); got != (api.Prefix{}) || e != api.ErrForm {
			t.Errorf("Parse of %d bytes = %v, %d", len(s), got, e)
		}
	}
}

// window is a part of an address whose bits are told by a number: those ahead of it are fixed, those behind it are all alike.
type window struct {
	v     int
	ahead string
	width int
}

// windows are so wide, and stand at the beginning and at the end of addresses of a version, at the end of the first byte, and across two bytes.
func windows(v, width int) []window {
	bits := text([16]byte{172, 16, 0, 1, 9, 8, 7, 6, 5, 4, 3, 2, 1, 2, 3, 4})
	var l []window
	for _, at := range []int{0, 8 - width, 14, size[v] - width} {
		l = append(l, window{v, bits[:at], width})
	}
	return l
}

// whole tells the first and the last address at which the window has a number.
func (w window) whole(n int) (first, last [16]byte) {
	bits := w.ahead + fmt.Sprintf("%0*b", w.width, n)
	return address(bits), address(bits + strings.Repeat("1", size[w.v]-len(bits)))
}

// block tells the prefix of the numbers from one on, so many: a power of two.
func (w window) block(n, count int) api.Prefix {
	bits := fmt.Sprintf("%0*b", w.width, n)
	for ; count > 1; count /= 2 {
		bits = bits[:len(bits)-1]
	}
	return of(w.v, w.ahead+bits)
}

// fewest tells the blocks of numbers of which all are in, and not all of the next greater block.
func (w window) fewest(in []bool) []api.Prefix {
	var l []api.Prefix
	for n := 0; n < len(in); {
		count := 0
		for block := 1; block <= len(in) && n%block == 0 && !slices.Contains(in[n:n+block], false); block *= 2 {
			count = block
		}
		if count > 0 {
			l = append(l, w.block(n, count))
		}
		n += max(count, 1)
	}
	return l
}

// P7.8

func TestCoverOfEveryRange(t *testing.T) {
	for _, w := range append(windows(4, 5), windows(6, 5)...) {
		for lo := range 1 << w.width {
			for hi := range 1 << w.width {
				in := make([]bool, 1<<w.width)
				for n := lo; n <= hi; n++ {
					in[n] = true
				}
				first, _ := w.whole(lo)
				_, last := w.whole(hi)
				want, f := w.fewest(in), api.OK
				if lo > hi {
					want, f = nil, api.ErrOrder
				}
				if got, e := prefix.Cover(w.v, first, last); !slices.Equal(got, want) || e != f {
					t.Fatalf("Cover(%d, %x, %x) = %v, %d, not %v, %d", w.v, first, last, got, e, want, f)
				}
			}
		}
	}
}

func TestCoverOfInvalid(t *testing.T) {
	for _, v := range []int{0, 5, -1, 3, 7, 8, math.MaxInt, math.MinInt} {
		for _, pair := range [][2][16]byte{{}, {{1}, {}}, {{}, full()}} {
			if got, e := prefix.Cover(v, pair[0], pair[1]); got != nil || e != api.ErrVersion {
				t.Errorf("Cover(%d, %x) = %v, %d", v, pair, got, e)
			}
		}
	}
	orders := []struct {
		v      int
		lo, hi [16]byte
	}{
		{4, [16]byte{1}, [16]byte{0, 255, 255, 255}}, {4, [16]byte{3: 1}, [16]byte{4: 255}}, {4, [16]byte{1, 1}, [16]byte{1, 0, 9}}, {4, full(), [16]byte{}},
		{6, [16]byte{15: 1}, [16]byte{}}, {6, [16]byte{1}, [16]byte{0, 255}}, {6, [16]byte{7, 4: 2}, [16]byte{7, 4: 1, 5: 255}}, {6, full(), [16]byte{}},
	}
	for _, c := range orders {
		if got, e := prefix.Cover(c.v, c.lo, c.hi); got != nil || e != api.ErrOrder {
			t.Errorf("Cover(%d, %x, %x) = %v, %d", c.v, c.lo, c.hi, got, e)
		}
	}
}

func TestCoverOfFourIgnoresTheOtherBytes(t *testing.T) {
	lo, hi := [16]byte{10, 0, 0, 1, 255, 9}, [16]byte{10, 0, 0, 1, 0, 9}
	if got, e := prefix.Cover(4, lo, hi); !slices.Equal(got, parsedAll("10.0.0.1/32")) || e != api.OK {
		t.Errorf("Cover = %v, %d", got, e)
	}
	if got, e := prefix.Cover(6, lo, hi); got != nil || e != api.ErrOrder {
		t.Errorf("Cover of version 6 = %v, %d", got, e)
	}
}

func TestCoverOfAll(t *testing.T) {
	for _, v := range versions() {
		if got, e := prefix.Cover(v, [16]byte{}, full()); !slices.Equal(got, []api.Prefix{{V: v}}) || e != api.OK {
			t.Errorf("Cover = %v, %d", got, e)
		}
	}
	if got, e := prefix.Cover(4, [16]byte{3: 1}, [16]byte{255, 255, 255, 254}); len(got) != 62 || e != api.OK {
		t.Errorf("Cover of all but two = %d prefixes, %d", len(got), e)
	}
	almost := full()
	almost[15] = 254
	if got, e := prefix.Cover(6, [16]byte{15: 1}, almost); len(got) != 254 || e != api.OK {
		t.Errorf("Cover of all but two = %d prefixes, %d", len(got), e)
	}
}

// greedy tells the fewest prefixes by numbers: each one is the greatest that begins at the next address and does not go beyond the last one.
func greedy(v int, lo, hi [16]byte) []api.Prefix {
	count := size[v] / 8
	next, last, one := new(big.Int).SetBytes(lo[:count]), new(big.Int).SetBytes(hi[:count]), big.NewInt(1)
	var l []api.Prefix
	for next.Cmp(last) <= 0 {
		width := 0
		for width < size[v] && next.Bit(width) == 0 {
			end := new(big.Int).Lsh(one, uint(width+1))
			end.Add(end, next).Sub(end, one)
			if end.Cmp(last) > 0 {
				break
			}
			width++
		}
		p := api.Prefix{V: v, Len: size[v] - width}
		next.FillBytes(p.Addr[:count])
		l = append(l, p)
		next.Add(next, new(big.Int).Lsh(one, uint(width)))
	}
	return l
}

func TestCoverOfDrawnRanges(t *testing.T) {
	l := drawn(12, 10)
	for _, v := range versions() {
		for _, lo := range l {
			for _, hi := range l {
				if bytes.Compare(lo[:size[v]/8], hi[:size[v]/8]) > 0 {
					continue
				}
				if got, e := prefix.Cover(v, lo, hi); !slices.Equal(got, greedy(v, lo, hi)) || e != api.OK {
					t.Fatalf("Cover(%d, %x, %x) = %v, %d", v, lo, hi, got, e)
				}
			}
		}
	}
}

// P7.9

func TestMerge(t *testing.T) {
	cases := []struct{ l, want []api.Prefix }{
		{nil, nil}, {[]api.Prefix{}, nil},
		{parsedAll("10.32.0.0/11"), parsedAll("10.32.0.0/11")},
		{parsedAll("10.48.0.0/12", "10.32.0.0/12"), parsedAll("10.32.0.0/11")},
		{parsedAll("10.32.0.0/12", "10.16.0.0/12"), parsedAll("10.16.0.0/12", "10.32.0.0/12")},
		{parsedAll("10.0.0.0/8", "10.1.2.3/32", "10.32.0.0/11", "10.0.0.0/8"), parsedAll("10.0.0.0/8")},
		{parsedAll("::/0", "0.0.0.0/0", "2001:db8::/32", "1.2.3.4/32"), parsedAll("0.0.0.0/0", "::/0")},
		{parsedAll("128.0.0.0/1", "0.0.0.0/1"), parsedAll("0.0.0.0/0")},
		{parsedAll("8000::/1", "::/1", "255.0.0.0/8"), parsedAll("255.0.0.0/8", "::/0")},
		{parsedAll("::/128", "0.0.0.0/32", "::1/128", "0.0.0.1/32"), parsedAll("0.0.0.0/31", "::/127")},
		{parsedAll("0.0.0.3/32", "0.0.0.2/32", "0.0.0.1/32", "0.0.0.0/32", "0.0.0.4/32"), parsedAll("0.0.0.0/30", "0.0.0.4/32")},
		{parsedAll("0.0.0.0/31", "0.0.0.2/32", "0.0.0.3/32", "0.0.0.2/31"), parsedAll("0.0.0.0/30")},
	}
	for _, c := range cases {
		if got, e := prefix.Merge(c.l); !slices.Equal(got, c.want) || e != api.OK {
			t.Errorf("Merge(%v) = %v, %d, not %v", c.l, got, e, c.want)
		}
	}
}

func TestMergeOfInvalid(t *testing.T) {
	good := parsed("10.32.0.0/11")
	for want, l := range invalid() {
		for _, p := range l {
			for _, list := range [][]api.Prefix{{p}, {good, p}, {p, good}, {good, good, p, {V: 5}}, {p, {V: 4, Len: 33}}, {p, {V: 6, Addr: full()}}} {
				if got, e := prefix.Merge(list); got != nil || e != want {
					t.Errorf("Merge(%v) = %v, %d, not %d", list, got, e, want)
				}
			}
		}
	}
}

// Every set of the numbers of a small window, given one by one from the last one on.
func TestMergeOfEverySet(t *testing.T) {
	for _, w := range append(windows(4, 3), windows(6, 3)...) {
		for set := range 1 << 8 {
			in := make([]bool, 8)
			var l []api.Prefix
			for n := 7; n >= 0; n-- {
				if set>>n&1 == 1 {
					in[n] = true
					l = append(l, w.block(n, 1))
				}
			}
			if got, e := prefix.Merge(l); !slices.Equal(got, w.fewest(in)) || e != api.OK {
				t.Fatalf("Merge(%v) = %v, %d, not %v", l, got, e, w.fewest(in))
			}
		}
	}
}

// Lists of drawn blocks of two windows, one of each version.
func TestMergeOfDrawnLists(t *testing.T) {
	draw := rand.New(rand.NewSource(13))
	fours, sixes := windows(4, 5), windows(6, 5)
	for range 20000 {
		pair := [2]window{fours[draw.Intn(len(fours))], sixes[draw.Intn(len(sixes))]}
		in := [2][]bool{make([]bool, 32), make([]bool, 32)}
		var l []api.Prefix
		for range draw.Intn(24) {
			// The smaller blocks are drawn more often: a greater one has most of the window.
			which, block := draw.Intn(2), 1<<min(draw.Intn(6), draw.Intn(6))
			n := draw.Intn(32/block) * block
			for i := range block {
				in[which][n+i] = true
			}
			l = append(l, pair[which].block(n, block))
		}
		want := append(pair[0].fewest(in[0]), pair[1].fewest(in[1])...)
		if got, e := prefix.Merge(l); !slices.Equal(got, want) || e != api.OK {
			t.Fatalf("Merge(%v) = %v, %d, not %v", l, got, e, want)
		}
	}
}

func TestMergeOfManyPieces(t *testing.T) {
	draw := rand.New(rand.NewSource(14))
	var l []api.Prefix
	for n := range 1 << 14 {
		bits := fmt.Sprintf("%014b", n)
		l = append(l, of(4, bits), of(6, bits), of(6, strings.Repeat("10", 57)+bits))
	}
	draw.Shuffle(len(l), func(i, j int) { l[i], l[j] = l[j], l[i] })
	if got, e := prefix.Merge(l); !slices.Equal(got, parsedAll("0.0.0.0/0", "::/0")) || e != api.OK {
		t.Errorf("Merge = %d prefixes, %d", len(got), e)
	}
	l = slices.DeleteFunc(l, func(p api.Prefix) bool { return p.Len == 14 })
	if got, e := prefix.Merge(l); !slices.Equal(got, []api.Prefix{of(6, strings.Repeat("10", 57))}) || e != api.OK {
		t.Errorf("Merge = %d prefixes, %d", len(got), e)
	}
}

// What Cover parts, Merge puts together again: a range's prefixes are the fewest.
func TestMergeOfCover(t *testing.T) {
	l := drawn(15, 12)
	for _, v := range versions() {
		for _, lo := range l {
			for _, hi := range l {
				pieces, _ := prefix.Cover(v, lo, hi)
				var small []api.Prefix
				for _, p := range pieces {
					low, high, ok := prefix.Halves(p)
					if !ok {
						low = p
					}
					small = append(small, low)
					if ok {
						small = append(small, high)
					}
				}
				if got, e := prefix.Merge(small); !slices.Equal(got, pieces) || e != api.OK {
					t.Fatalf("Merge(%v) = %v, %d, not %v", small, got, e, pieces)
				}
			}
		}
	}
}

// P7.7

func TestParseOfPrint(t *testing.T) {
	for _, p := range valid() {
		if got, e := prefix.Parse(prefix.Print(p)); got != p || e != api.OK {
			t.Fatalf("Parse of what Print tells of %v = %v, %d", p, got, e)
		}
	}
}

func TestAddressesOfHalves(t *testing.T) {
	for _, p := range valid() {
		low, high, ok := prefix.Halves(p)
		for _, a := range [][16]byte{p.Addr, prefix.Last(p), low.Addr, prefix.Last(low), high.Addr, prefix.Last(high)} {
			if ok && prefix.Has(p, p.V, a) && prefix.Has(low, p.V, a) == prefix.Has(high, p.V, a) {
				t.Fatalf("%x in both or none of %v and %v", a, low, high)
			}
		}
	}
}

// P7.10

// owners tells how many prefixes an address has.
func owners(l []api.Prefix, v int, a [16]byte) int {
	count := 0
	for _, p := range l {
		if prefix.Has(p, v, a) {
			count++
		}
	}
	return count
}

// around are addresses at the edges of prefixes, and next to them.
func around(l []api.Prefix) [][16]byte {
	var out [][16]byte
	for _, p := range l {
		first, last := p.Addr, prefix.Last(p)
		below, above := first, last
		end := size[p.V]/8 - 1
		below[end]--
		above[end]++
		out = append(out, first, last, below, above)
	}
	return out
}

func TestAddressesOfMerge(t *testing.T) {
	draw := rand.New(rand.NewSource(16))
	for range 500 {
		var l []api.Prefix
		for _, a := range drawn(draw.Int63(), 4) {
			v := 4 + 2*draw.Intn(2)
			l = append(l, of(v, text(a)[:draw.Intn(size[v]+1)]))
		}
		merged, _ := prefix.Merge(l)
		for _, a := range append(around(l), drawn(draw.Int63(), 4)...) {
			for _, v := range versions() {
				if want := min(owners(l, v, a), 1); owners(merged, v, a) != want {
					t.Fatalf("%x has %d of %v, not %d", a, owners(merged, v, a), merged, want)
				}
			}
		}
	}
}

func TestAddressesOfCover(t *testing.T) {
	l := drawn(17, 5)
	for _, v := range versions() {
		for _, lo := range l {
			for _, hi := range l {
				pieces, e := prefix.Cover(v, lo, hi)
				for _, a := range append(around(pieces), l...) {
					count := size[v] / 8
					want := 0
					if e == api.OK && bytes.Compare(lo[:count], a[:count]) <= 0 && bytes.Compare(a[:count], hi[:count]) <= 0 {
						want = 1
					}
					if got := owners(pieces, v, a); got != want {
						t.Fatalf("%x has %d of the prefixes from %x to %x, not %d", a, got, lo, hi, want)
					}
				}
			}
		}
	}
}

// P3 of the general rules

func TestArgumentsStay(t *testing.T) {
	l := parsedAll("10.48.0.0/12", "::/0", "10.32.0.0/12", "10.0.0.0/24", "1.2.3.4/32", "9.0.0.0/8")
	before := slices.Clone(l)
	prefix.Merge(l[:4])
	if !slices.Equal(l, before) {
		t.Errorf("Merge left %v", l)
	}
}

func TestResultsAreNewMemory(t *testing.T) {
	l := parsedAll("10.32.0.0/11", "::/0")
	first, _ := prefix.Merge(l)
	second, _ := prefix.Merge(l)
	first[0], first[1] = api.Prefix{}, api.Prefix{}
	if want := parsedAll("10.32.0.0/11", "::/0"); !slices.Equal(l, want) || !slices.Equal(second, want) {
		t.Errorf("the list is %v, the other result %v", l, second)
	}
	one, _ := prefix.Cover(4, [16]byte{}, full())
	other, _ := prefix.Cover(4, [16]byte{}, full())
	one[0] = api.Prefix{}
	if !slices.Equal(other, parsedAll("0.0.0.0/0")) {
		t.Errorf("the other result of Cover is %v", other)
	}
}

func TestOnlyTheLengthCounts(t *testing.T) {
	l := append(parsedAll("10.48.0.0/12", "10.32.0.0/12", "10.0.0.0/8"), api.Prefix{V: 5})
	if got, e := prefix.Merge(l[:2]); !slices.Equal(got, parsedAll("10.32.0.0/11")) || e != api.OK {
		t.Errorf("Merge = %v, %d", got, e)
	}
}

// P5 of the general rules: a call answers the same whatever was called ahead of it.
func TestNothingIsKept(t *testing.T) {
	for range 3 {
		if got, e := prefix.Parse("10.32.0.1/11"); got != (api.Prefix{}) || e != api.ErrBits {
			t.Errorf("Parse = %v, %d", got, e)
		}
		if got, e := prefix.Parse("10.32.0.0/11"); got != parsed("10.32.0.0/11") || e != api.OK {
			t.Errorf("Parse = %v, %d", got, e)
		}
		if got, e := prefix.Merge(parsedAll("0.0.0.1/32", "0.0.0.0/32")); !slices.Equal(got, parsedAll("0.0.0.0/31")) || e != api.OK {
			t.Errorf("Merge = %v, %d", got, e)
		}
		if got, e := prefix.Cover(6, [16]byte{15: 1}, [16]byte{15: 2}); !slices.Equal(got, parsedAll("::1/128", "::2/128")) || e != api.OK {
			t.Errorf("Cover = %v, %d", got, e)
		}
		if got, e := prefix.Cover(6, [16]byte{15: 2}, [16]byte{15: 1}); got != nil || e != api.ErrOrder {
			t.Errorf("Cover = %v, %d", got, e)
		}
	}
}
