package rule_test

import (
	"math"
	"math/rand"
	"regexp"
	"slices"
	"strconv"
	"strings"
	"testing"

	"weighbridge/almost"
	"weighbridge/api"
	"weighbridge/point"
	"weighbridge/prefix"
	"weighbridge/rule"
	"weighbridge/span"
)

// all is the span of all ports.
func all() api.Span {
	return api.Span{Lo: 0, Hi: 65535}
}

// example is the rule of the document's example.
func example() api.Rule {
	return api.Rule{
		Src: api.Prefix{V: 4, Addr: [16]byte{10}, Len: 8}, Dst: api.Prefix{V: 4, Addr: [16]byte{10, 1}, Len: 16},
		SrcPort: all(), DstPort: api.Span{Lo: 53, Hi: 53}, Proto: 17, Dscp: 46, Class: 2,
	}
}

// exampleText is its text.
const exampleText = "10.0.0.0/8 10.1.0.0/16 * 53 17 ef 2"

// six is a rule of version 6 that asks something of every part.
func six() api.Rule {
	return api.Rule{
		Src: api.Prefix{V: 6, Addr: [16]byte{0x20, 1, 0x0d, 0xb8}, Len: 33}, Dst: api.Prefix{V: 6, Addr: [16]byte{15: 1}, Len: 128},
		SrcPort: api.Span{Lo: 1024, Hi: 65535}, DstPort: api.Span{Lo: 0, Hi: 79}, Proto: 6, Dscp: 0, Class: 15,
	}
}

// change is something that makes a rule not valid, and the error of that.
type change struct {
	make func(r *api.Rule)
	e    api.Errno
}

// changes are the changes by the part that they are in, in the order of the checks.
func changes() [][]change {
	prefixes := func(part func(r *api.Rule) *api.Prefix) []change {
		put := func(p api.Prefix, e api.Errno) change {
			return change{func(r *api.Rule) { *part(r) = p }, e}
		}
		return []change{
			put(api.Prefix{V: 0}, api.ErrVersion), put(api.Prefix{V: 5, Len: 99}, api.ErrVersion), put(api.Prefix{V: -4}, api.ErrVersion), put(api.Prefix{V: 10, Len: 8, Addr: [16]byte{10}}, api.ErrVersion),
			put(api.Prefix{V: 4, Len: 33}, api.ErrRange), put(api.Prefix{V: 4, Len: -1}, api.ErrRange), put(api.Prefix{V: 6, Len: 129}, api.ErrRange), put(api.Prefix{V: 6, Len: math.MinInt}, api.ErrRange),
			put(api.Prefix{V: 4, Len: 8, Addr: [16]byte{10, 1}}, api.ErrBits), put(api.Prefix{V: 4, Len: 32, Addr: [16]byte{15: 1}}, api.ErrBits), put(api.Prefix{V: 6, Len: 127, Addr: [16]byte{15: 1}}, api.ErrBits),
		}
	}
	spans := func(part func(r *api.Rule) *api.Span) []change {
		put := func(lo, hi int, e api.Errno) change {
			return change{func(r *api.Rule) { *part(r) = api.Span{Lo: lo, Hi: hi} }, e}
		}
		return []change{put(-1, 5, api.ErrRange), put(0, 65536, api.ErrRange), put(70000, 5, api.ErrRange), put(math.MinInt, math.MaxInt, api.ErrRange), put(9, 5, api.ErrOrder), put(65535, 0, api.ErrOrder)}
	}
	numbers := func(part func(r *api.Rule) *int, e api.Errno, l ...int) []change {
		var out []change
		for _, n := range l {
			out = append(out, change{func(r *api.Rule) { *part(r) = n }, e})
		}
		return out
	}
	other := change{func(r *api.Rule) { r.Dst = api.Prefix{V: 10 - r.Src.V} }, api.ErrVersion}
	return [][]change{
		prefixes(func(r *api.Rule) *api.Prefix { return &r.Src }), prefixes(func(r *api.Rule) *api.Prefix { return &r.Dst }), {other},
		spans(func(r *api.Rule) *api.Span { return &r.SrcPort }), spans(func(r *api.Rule) *api.Span { return &r.DstPort }),
		numbers(func(r *api.Rule) *int { return &r.Proto }, api.ErrRange, -2, 256, 257, math.MinInt, math.MaxInt, 1<<32),
		numbers(func(r *api.Rule) *int { return &r.Dscp }, api.ErrPoint, -2, 64, 65, 255, math.MinInt, math.MaxInt, 1<<32),
		numbers(func(r *api.Rule) *int { return &r.Class }, api.ErrClass, -1, -2, 16, 17, math.MinInt, math.MaxInt, 1<<32),
	}
}

// invalid are rules that are not valid.
func invalid() []api.Rule {
	var l []api.Rule
	for _, part := range changes() {
		for _, c := range part {
			for _, r := range []api.Rule{example(), six(), rule.Any(4, 0), rule.Any(6, 0)} {
				c.make(&r)
				l = append(l, r)
			}
		}
	}
	return append(l, api.Rule{}, rule.Any(0, 0), rule.Any(5, 0), rule.Any(4, 16), rule.Any(6, -1))
}

// from tells one of some.
func from[T any](draw *rand.Rand, l ...T) T {
	return l[draw.Intn(len(l))]
}

// address tells an address of few values, so that there are prefixes that it has.
func address(draw *rand.Rand, v int) [16]byte {
	var a [16]byte
	for i := range a {
		if v == 6 || i < 4 {
			a[i] = from(draw, byte(0), 0, 0, 0, 1, 0x80, 0xff)
		}
	}
	return a
}

// drawPrefix tells a valid prefix.
func drawPrefix(draw *rand.Rand, v int) api.Prefix {
	n := from(draw, 0, 1, 7, 8, 9, 16, 24, 31, 32)
	if v == 6 {
		n = from(draw, n, 33, 64, 127, 128)
	}
	p, _ := prefix.Make(v, address(draw, v), n)
	return p
}

// drawSpan tells a valid span.
func drawSpan(draw *rand.Rand) api.Span {
	lo := from(draw, 0, 0, 1, 53, 80, 1024, 65534, 65535)
	return from(draw, all(), api.Span{Lo: lo, Hi: lo}, api.Span{Lo: lo, Hi: 65535}, api.Span{Lo: 0, Hi: lo}, api.Span{Lo: lo, Hi: min(lo+1+draw.Intn(99), 65535)})
}

// drawRule tells a valid rule.
func drawRule(draw *rand.Rand) api.Rule {
	v := from(draw, 4, 6)
	return api.Rule{
		Src: drawPrefix(draw, v), Dst: drawPrefix(draw, v), SrcPort: drawSpan(draw), DstPort: drawSpan(draw),
		Proto: from(draw, -1, 0, 1, 6, 17, 132, 255, draw.Intn(256)), Dscp: from(draw, -1, 0, 46, 63, draw.Intn(64)), Class: draw.Intn(16),
	}
}

// P17.1

func TestAny(t *testing.T) {
	for _, v := range []int{4, 6, 0, -1, 5, 7, math.MinInt, math.MaxInt} {
		for _, class := range []int{0, 1, 7, 15, 16, -1, math.MinInt, math.MaxInt} {
			want := api.Rule{Src: api.Prefix{V: v}, Dst: api.Prefix{V: v}, SrcPort: all(), DstPort: all(), Proto: -1, Dscp: -1, Class: class}
			if got := rule.Any(v, class); got != want {
				t.Errorf("Any(%d, %d) = %v", v, class, got)
			}
		}
	}
}

// P17.2

func TestCheckOfValid(t *testing.T) {
	check := func(r api.Rule) {
		t.Helper()
		if got := rule.Check(r); got != api.OK {
			t.Errorf("Check(%v) = %d", r, got)
		}
	}
	for _, base := range []api.Rule{example(), six(), rule.Any(4, 0), rule.Any(6, 0)} {
		for n := -1; n <= 255; n++ {
			r := base
			r.Proto = n
			check(r)
		}
		for n := -1; n <= 63; n++ {
			r := base
			r.Dscp = n
			check(r)
		}
		for n := range 16 {
			r := base
			r.Class = n
			check(r)
		}
		for _, s := range []api.Span{all(), {}, {Lo: 65535, Hi: 65535}, {Lo: 5, Hi: 6}} {
			r := base
			r.SrcPort, r.DstPort = s, all()
			check(r)
			r.SrcPort, r.DstPort = all(), s
			check(r)
		}
	}
	draw := rand.New(rand.NewSource(172))
	for range 5000 {
		check(drawRule(draw))
	}
}

func TestCheckOfOneChange(t *testing.T) {
	for part, l := range changes() {
		for i, c := range l {
			for _, r := range []api.Rule{example(), six(), rule.Any(4, 0), rule.Any(6, 0)} {
				c.make(&r)
				if got := rule.Check(r); got != c.e {
					t.Errorf("Check(%v) = %d, not %d (part %d, change %d)", r, got, c.e, part, i)
				}
			}
		}
	}
	for r, want := range map[api.Rule]api.Errno{{}: api.ErrVersion, rule.Any(5, 0): api.ErrVersion, rule.Any(4, 16): api.ErrClass, rule.Any(6, -1): api.ErrClass} {
		if got := rule.Check(r); got != want {
			t.Errorf("Check(%v) = %d, not %d", r, got, want)
		}
	}
}

// The error of the part that is named first is told, whatever is wrong with those behind it.
func TestCheckOrder(t *testing.T) {
	parts := changes()
	for first, l := range parts {
		for _, c := range l {
			for second := first + 1; second < len(parts); second++ {
				for _, d := range parts[second] {
					if first == 1 && second == 2 {
						// These two change the same part: a prefix of the other version that is not valid itself is among the first ones.
						continue
					}
					r := example()
					d.make(&r)
					c.make(&r)
					if got := rule.Check(r); got != c.e {
						t.Fatalf("Check(%v) = %d, not %d", r, got, c.e)
					}
				}
			}
		}
	}
	for _, r := range []api.Rule{example(), six()} {
		for _, l := range parts {
			l[0].make(&r)
		}
		if got := rule.Check(r); got != api.ErrVersion {
			t.Errorf("Check(%v) = %d", r, got)
		}
	}
}

// P17.3

// bit tells a bit of an address.
func bit(a [16]byte, i int) byte {
	return a[i/8] >> (7 - i%8) & 1
}

// reference tells what the document says of a valid rule and a key.
func reference(r api.Rule, k api.Key) bool {
	if k.V != r.Src.V {
		return false
	}
	for i := range r.Src.Len {
		if bit(k.Src, i) != bit(r.Src.Addr, i) {
			return false
		}
	}
	for i := range r.Dst.Len {
		if bit(k.Dst, i) != bit(r.Dst.Addr, i) {
			return false
		}
	}
	if r.SrcPort != all() && (!k.Ports || k.SrcPort < r.SrcPort.Lo || k.SrcPort > r.SrcPort.Hi) {
		return false
	}
	if r.DstPort != all() && (!k.Ports || k.DstPort < r.DstPort.Lo || k.DstPort > r.DstPort.Hi) {
		return false
	}
	if r.Proto != -1 && r.Proto != k.Proto {
		return false
	}
	return r.Dscp == -1 || r.Dscp == k.Dscp
}

// key is a key that has all that the example asks.
func key() api.Key {
	return api.Key{V: 4, Src: [16]byte{10, 9, 8, 7}, Dst: [16]byte{10, 1, 2, 3}, Proto: 17, Dscp: 46, Ports: true, SrcPort: 4000, DstPort: 53}
}

func TestMatches(t *testing.T) {
	cases := []struct {
		change func(k *api.Key)
		want   bool
	}{
		{func(*api.Key) {}, true}, {func(k *api.Key) { k.V = 6 }, false}, {func(k *api.Key) { k.V = 0 }, false}, {func(k *api.Key) { k.V = -4 }, false},
		{func(k *api.Key) { k.Src[0] = 11 }, false}, {func(k *api.Key) { k.Src = [16]byte{10} }, true}, {func(k *api.Key) { k.Src = [16]byte{10, 255, 255, 255} }, true}, {func(k *api.Key) { k.Src[4], k.Src[15] = 1, 255 }, true},
		{func(k *api.Key) { k.Dst[0] = 11 }, false}, {func(k *api.Key) { k.Dst[1] = 0 }, false}, {func(k *api.Key) { k.Dst[1] = 2 }, false}, {func(k *api.Key) { k.Dst[2] = 255 }, true}, {func(k *api.Key) { k.Dst[9] = 255 }, true},
		{func(k *api.Key) { k.Src, k.Dst = k.Dst, k.Src }, false}, {func(k *api.Key) { k.Ports = false }, false},
		{func(k *api.Key) { k.SrcPort = 0 }, true}, {func(k *api.Key) { k.SrcPort = 65535 }, true}, {func(k *api.Key) { k.SrcPort = -1 }, true}, {func(k *api.Key) { k.SrcPort = 65536 }, true},
		{func(k *api.Key) { k.DstPort = 52 }, false}, {func(k *api.Key) { k.DstPort = 54 }, false}, {func(k *api.Key) { k.DstPort = -1 }, false}, {func(k *api.Key) { k.SrcPort, k.DstPort = 53, 4000 }, false},
		{func(k *api.Key) { k.Proto = 6 }, false}, {func(k *api.Key) { k.Proto = -1 }, false}, {func(k *api.Key) { k.Proto = 46 }, false}, {func(k *api.Key) { k.Proto = 17 + 256 }, false},
		{func(k *api.Key) { k.Dscp = 0 }, false}, {func(k *api.Key) { k.Dscp = -1 }, false}, {func(k *api.Key) { k.Dscp = 17 }, false}, {func(k *api.Key) { k.Dscp = 46 + 64 }, false},
	}
	for i, c := range cases {
		k := key()
		c.change(&k)
		if got := rule.Matches(example(), k); got != c.want {
			t.Errorf("%d: Matches of %v = %v", i, k, got)
		}
	}
}

// A rule that asks nothing of a port, a protocol or a code point takes any, also what is none.
func TestMatchesOfAny(t *testing.T) {
	odd := []int{math.MinInt, -2, -1, 0, 1, 6, 63, 64, 255, 256, 65535, 65536, math.MaxInt}
	for _, v := range []int{4, 6} {
		for i, n := range odd {
			for _, ports := range []bool{false, true} {
				k := api.Key{V: v, Src: [16]byte{1, 15: 1}, Dst: [16]byte{2, 15: 2}, Proto: n, Dscp: odd[(i+3)%len(odd)], Ports: ports, SrcPort: odd[(i+5)%len(odd)], DstPort: odd[(i+7)%len(odd)]}
				if !rule.Matches(rule.Any(v, 3), k) {
					t.Errorf("Matches(Any(%d), %v) is false", v, k)
				}
				if rule.Matches(rule.Any(10-v, 3), k) {
					t.Errorf("Matches(Any(%d), %v) is true", 10-v, k)
				}
			}
		}
	}
}

// A rule that asks something of one port needs a key with ports, and nothing of the other port.
func TestMatchesOfPorts(t *testing.T) {
	s := api.Span{Lo: 80, Hi: 90}
	for _, v := range []int{4, 6} {
		src, dst, two := rule.Any(v, 0), rule.Any(v, 0), rule.Any(v, 0)
		src.SrcPort, dst.DstPort, two.SrcPort, two.DstPort = s, s, s, s
		nearly := rule.Any(v, 0)
		nearly.SrcPort = api.Span{Lo: 0, Hi: 65534}
		for _, a := range []int{math.MinInt, -1, 0, 79, 80, 85, 90, 91, 65534, 65535, 65536, math.MaxInt} {
			for _, b := range []int{-1, 0, 79, 80, 90, 91, 65535, 65536} {
				k := api.Key{V: v, Ports: true, SrcPort: a, DstPort: b}
				inA, inB := 80 <= a && a <= 90, 80 <= b && b <= 90
				if rule.Matches(src, k) != inA || rule.Matches(dst, k) != inB || rule.Matches(two, k) != (inA && inB) || rule.Matches(nearly, k) != (0 <= a && a <= 65534) {
					t.Errorf("Matches with ports %d and %d = %v, %v, %v, %v", a, b, rule.Matches(src, k), rule.Matches(dst, k), rule.Matches(two, k), rule.Matches(nearly, k))
				}
				k.Ports = false
				if rule.Matches(src, k) || rule.Matches(dst, k) || rule.Matches(two, k) || rule.Matches(nearly, k) || !rule.Matches(rule.Any(v, 0), k) {
					t.Errorf("Matches without ports, %d and %d, is not right", a, b)
				}
			}
		}
	}
}

func TestMatchesOfInvalid(t *testing.T) {
	for _, r := range invalid() {
		// Keys that have what the rule asks, as far as it can be had.
		for _, k := range []api.Key{
			{}, key(), {V: r.Src.V, Src: r.Src.Addr, Dst: r.Dst.Addr, Proto: r.Proto, Dscp: r.Dscp, Ports: true, SrcPort: r.SrcPort.Lo, DstPort: r.DstPort.Lo},
			{V: r.Dst.V, Src: r.Src.Addr, Dst: r.Dst.Addr, Proto: r.Proto, Dscp: r.Dscp, Ports: true, SrcPort: r.SrcPort.Hi, DstPort: r.DstPort.Hi},
		} {
			if rule.Matches(r, k) {
				t.Errorf("Matches(%v, %v) is true", r, k)
			}
		}
	}
}

func TestMatchesOfDrawnKeys(t *testing.T) {
	draw := rand.New(rand.NewSource(173))
	hits := 0
	for range 200000 {
		r := drawRule(draw)
		src, dst := address(draw, 6), address(draw, 6)
		// Half of the addresses have the prefixes, but for one bit at most.
		for i := range r.Src.Len {
			if draw.Intn(2) == 0 || i > 2 {
				src[i/8] = src[i/8]&^(0x80>>(i%8)) | r.Src.Addr[i/8]&(0x80>>(i%8))
			}
		}
		for i := range r.Dst.Len {
			dst[i/8] = dst[i/8]&^(0x80>>(i%8)) | r.Dst.Addr[i/8]&(0x80>>(i%8))
		}
		if draw.Intn(4) == 0 {
			dst[draw.Intn(16)] ^= 1 << draw.Intn(8)
		}
		k := api.Key{
			V: from(draw, r.Src.V, r.Src.V, r.Src.V, 4, 6, 0), Src: src, Dst: dst, Proto: from(draw, r.Proto, r.Proto, 6, 17, -1, 255), Dscp: from(draw, r.Dscp, r.Dscp, 46, 0, -1), Ports: draw.Intn(5) > 0,
			SrcPort: from(draw, r.SrcPort.Lo, r.SrcPort.Hi, r.SrcPort.Lo-1, r.SrcPort.Hi+1, draw.Intn(65536)), DstPort: from(draw, r.DstPort.Lo, r.DstPort.Hi, r.DstPort.Lo-1, r.DstPort.Hi+1, draw.Intn(65536)),
		}
		want := reference(r, k)
		if got := rule.Matches(r, k); got != want {
			t.Fatalf("Matches(%v, %v) = %v", r, k, got)
		}
		if want {
			hits++
		}
	}
	if hits < 5000 {
		t.Errorf("%d keys matched", hits)
	}
}

// P17.4

func TestPrint(t *testing.T) {
	none, both := example(), example()
	none.Proto, none.Dscp, none.Class = -1, -1, 0
	both.SrcPort, both.DstPort, both.Proto, both.Dscp, both.Class = api.Span{Lo: 0, Hi: 65534}, api.Span{}, 0, 0, 15
	last := rule.Any(6, 10)
	last.Proto, last.Dscp, last.SrcPort, last.DstPort = 255, 63, api.Span{Lo: 65535, Hi: 65535}, api.Span{Lo: 1, Hi: 65535}
	cases := []struct {
		r    api.Rule
		want string
	}{
		{example(), exampleText}, {six(), "2001:db8::/33 ::1/128 1024-65535 0-79 6 cs0 15"}, {rule.Any(4, 0), "0.0.0.0/0 0.0.0.0/0 * * * * 0"}, {rule.Any(6, 15), "::/0 ::/0 * * * * 15"},
		{none, "10.0.0.0/8 10.1.0.0/16 * 53 * * 0"}, {both, "10.0.0.0/8 10.1.0.0/16 0-65534 0 0 cs0 15"}, {last, "::/0 ::/0 65535 1-65535 255 63 10"},
	}
	for _, c := range cases {
		if got := rule.Print(c.r); got != c.want {
			t.Errorf("Print(%v) = %q, not %q", c.r, got, c.want)
		}
	}
}

func TestPrintOfEveryNumber(t *testing.T) {
	name := func(n int, name string) string {
		if n == -1 {
			return "*"
		}
		return name
	}
	check := func(r api.Rule) {
		t.Helper()
		want := "10.0.0.0/8 10.1.0.0/16 * 53 " + name(r.Proto, strconv.Itoa(r.Proto)) + " " + name(r.Dscp, point.Name(r.Dscp)) + " " + strconv.Itoa(r.Class)
		if got := rule.Print(r); got != want {
			t.Errorf("Print(%v) = %q, not %q", r, got, want)
		}
	}
	for n := -1; n <= 255; n++ {
		r := example()
		r.Proto, r.Dscp, r.Class = n, n%64, (n+16)%16
		check(r)
	}
	for n := range 64 {
		r := example()
		r.Dscp = n
		check(r)
	}
}

func TestPrintOfInvalid(t *testing.T) {
	for _, r := range invalid() {
		if got := rule.Print(r); got != "" {
			t.Errorf("Print(%v) = %q", r, got)
		}
	}
}

// P17.5

// number is the form of a number of any length.
var number = regexp.MustCompile(`\A(0|[1-9][0-9]*)\z`)

// numeral tells the number of a word of so many digits at most, or an error: e where it is greater than the last one.
func numeral(word string, digits, last int, e api.Errno) (int, api.Errno) {
	if len(word) > digits || !number.MatchString(word) {
		return 0, api.ErrForm
	}
	n, _ := strconv.Atoi(word)
	if n > last {
		return 0, e
	}
	return n, api.OK
}

// parse tells what the document says of a text.
func parse(s string) (api.Rule, api.Fault) {
	words := strings.Split(s, " ")
	if len(words) != 7 {
		return api.Rule{}, api.Fault{Errno: api.ErrForm, At: min(len(words), 7)}
	}
	r := api.Rule{Proto: -1, Dscp: -1}
	var e [7]api.Errno
	r.Src, e[0] = prefix.Parse(words[0])
	r.Dst, e[1] = prefix.Parse(words[1])
	if e[1] == api.OK && r.Src.V != r.Dst.V {
		e[1] = api.ErrVersion
	}
	r.SrcPort, e[2] = span.Parse(words[2])
	r.DstPort, e[3] = span.Parse(words[3])
	if words[4] != "*" {
		r.Proto, e[4] = numeral(words[4], 3, 255, api.ErrRange)
	}
	if words[5] != "*" {
		r.Dscp, e[5] = point.Parse(words[5])
	}
	r.Class, e[6] = numeral(words[6], 2, 15, api.ErrClass)
	for i := range e {
		if e[i] != api.OK {
			return api.Rule{}, api.Fault{Errno: e[i], At: i}
		}
	}
	return r, api.Fault{}
}

// check holds Parse of a text.
func check(t *testing.T, s string) {
	t.Helper()
	want, fault := parse(s)
	if got, f := rule.Parse(s); got != want || f != fault {
		t.Fatalf("Parse(%q) = %v, %d, not %v, %d", s, got, f, want, fault)
	}
}

func TestParse(t *testing.T) {
	all4, all6 := rule.Any(4, 0), rule.Any(6, 15)
	ports := rule.Any(4, 1)
	ports.SrcPort, ports.DstPort, ports.Proto, ports.Dscp = api.Span{Lo: 1, Hi: 2}, api.Span{Lo: 65535, Hi: 65535}, 255, 63
	least := rule.Any(6, 9)
	least.SrcPort, least.DstPort, least.Proto, least.Dscp = api.Span{}, api.Span{Lo: 7, Hi: 7}, 0, 0
	cases := map[string]api.Rule{
		exampleText: example(), "2001:db8::/33 ::1/128 1024-65535 0-79 6 cs0 15": six(), "2001:0DB8:0::/33 0:0:0:0:0:0:0:1/128 1024-65535 0-79 6 0 15": six(),
		"0.0.0.0/0 0.0.0.0/0 * * * * 0": all4, "::/0 ::/0 * * * * 15": all6, "::/0 ::/0 0-65535 * * * 15": all6,
		"0.0.0.0/0 0.0.0.0/0 1-2 65535 255 63 1": ports, "::/0 ::/0 0 7-7 0 0 9": least, "10.0.0.0/8 10.1.0.0/16 * 53 17 46 2": example(),
	}
	for s, want := range cases {
		if got, f := rule.Parse(s); got != want || f != (api.Fault{}) {
			t.Errorf("Parse(%q) = %v, %d, not %v", s, got, f, want)
		}
	}
}

func TestParseNumberOfWords(t *testing.T) {
	cases := map[string]int{
		"": 1, " ": 2, "  ": 3, "x": 1, "10.0.0.0/8": 1, "10.0.0.0/8 10.1.0.0/16": 2, "10.0.0.0/8 10.1.0.0/16 *": 3, "10.0.0.0/8 10.1.0.0/16 * 53": 4, "10.0.0.0/8 10.1.0.0/16 * 53 17": 5, "10.0.0.0/8 10.1.0.0/16 * 53 17 ef": 6,
		"10.0.0.0/8 10.1.0.0/16 * 53 17 ef 2 ": 7, " 10.0.0.0/8 10.1.0.0/16 * 53 17 ef 2": 7, "10.0.0.0/8 10.1.0.0/16 * 53 17 ef 2 2": 7, "10.0.0.0/8 10.1.0.0/16  * 53 17 ef 2": 7, "10.0.0.0/8 10.1.0.0/16 * 53 17 ef 2 3 4 5": 7,
		// The number of words ranks ahead of what they are.
		"10.0.0.1/8 10.1.0.0/16 * 53 17 ef": 6, "10.0.0.1/8 10.1.0.0/16 * 53 17 ef 2 2": 7, "x y": 2, "a b c d e f g h": 7, "       ": 7, "        ": 7,
		// Six spaces are seven words without a letter, of which the first one is wrong.
		"      ": 0, "10.0.0.0/8\t10.1.0.0/16\t*\t53\t17\tef\t2": 1, "10.0.0.0/8\u00a010.1.0.0/16 * 53 17 ef 2": 6, "10.0.0.0/8\n10.1.0.0/16 * 53 17 ef 2": 6, strings.Repeat(" ", 1<<20): 7, strings.Repeat("x", 1<<20): 1, strings.Repeat("x ", 1<<18): 7,
	}
	for s, at := range cases {
		if got, f := rule.Parse(s); got != (api.Rule{}) || f != (api.Fault{Errno: api.ErrForm, At: at}) {
			t.Errorf("Parse of %q, %d bytes, = %v, %d, not at %d", s[:min(len(s), 60)], len(s), got, f, at)
		}
	}
}

// wrong are words that are wrong at each place, and why.
func wrong() [7]map[api.Errno][]string {
	prefixes := map[api.Errno][]string{
		api.ErrForm: {"", "*", "x", "10.0.0.0", "10.0.0.0/", "/8", "10.0.0.0/08", "10.0.0.0/8/8", "256.0.0.0/8", "10.0.0/8", "::g/8", "10.0.0.0/x", "::/1000"}, api.ErrRange: {"10.0.0.0/33", "::/129", "::/999", "10.0.0.1/33"},
		api.ErrBits: {"10.0.0.1/31", "10.1.0.0/8", "::1/127", "0.0.0.1/0"},
	}
	second := map[api.Errno][]string{api.ErrVersion: {"::/0", "2001:db8::/32", "::10.0.0.0/104", "::1/128"}}
	for e, l := range prefixes {
		second[e] = l
	}
	spans := map[api.Errno][]string{api.ErrForm: {"", "x", "**", "05", "5-", "-5", "5-9-12", "100000", "*-5"}, api.ErrRange: {"65536", "5-65536", "99999-0"}, api.ErrOrder: {"20-10", "65535-0"}}
	proto := map[api.Errno][]string{
		api.ErrForm:  {"", "**", "-1", "+6", "06", "006", "00", "0000", "1000", "0255", "25a", "x", "udp", "17-18", "1.0", "0x6", "\u0666", "６", "99999999999999999999"},
		api.ErrRange: {"256", "257", "260", "300", "999"},
	}
	dscp := map[api.Errno][]string{api.ErrForm: {"", "**", "-1", "EF", "cs8", "af44", "046", "046", "100", "x", "0x2e"}, api.ErrPoint: {"64", "65", "99"}}
	class := map[api.Errno][]string{api.ErrForm: {"", "*", "-1", "+2", "02", "00", "000", "015", "100", "150", "1a", "a", "x", "0xf", "1.0", "\u0662", "99999999999999999999"}, api.ErrClass: {"16", "17", "20", "99"}}
	return [7]map[api.Errno][]string{prefixes, second, spans, spans, proto, dscp, class}
}

func TestParseOfOneWrongWord(t *testing.T) {
	for at, errnos := range wrong() {
		for want, l := range errnos {
			for _, word := range l {
				words := strings.Split(exampleText, " ")
				words[at] = word
				s := strings.Join(words, " ")
				if got, f := rule.Parse(s); got != (api.Rule{}) || f != (api.Fault{Errno: want, At: at}) {
					t.Errorf("Parse(%q) = %v, %d, not %d at %d", s, got, f, want, at)
				}
			}
		}
	}
	for s, want := range map[string]api.Fault{
		"::/0 0.0.0.0/0 * * * * 0": {Errno: api.ErrVersion, At: 1}, "0.0.0.0/0 ::/0 * * * * 0": {Errno: api.ErrVersion, At: 1},
		// A second prefix that is not valid is told by its own error, also where it is of the other version.
		"10.0.0.0/8 ::1/127 * * * * 0": {Errno: api.ErrBits, At: 1}, "10.0.0.0/8 ::/129 * * * * 0": {Errno: api.ErrRange, At: 1}, "::/0 10.0.0.0/33 * * * * 0": {Errno: api.ErrRange, At: 1},
		"10.0.0.1/8 ::/0 * * * * 0": {Errno: api.ErrBits, At: 0}, "x ::/0 * * * * 0": {Errno: api.ErrForm, At: 0},
	} {
		if got, f := rule.Parse(s); got != (api.Rule{}) || f != want {
			t.Errorf("Parse(%q) = %v, %d, not %d", s, got, f, want)
		}
	}
}

// The first word that is wrong is told, whatever is wrong with those behind it.
func TestParseOfTwoWrongWords(t *testing.T) {
	all := wrong()
	for at, errnos := range all {
		for want, l := range errnos {
			for other := at + 1; other < 7; other++ {
				for _, more := range all[other] {
					words := strings.Split(exampleText, " ")
					words[at], words[other] = l[0], more[0]
					s := strings.Join(words, " ")
					if got, f := rule.Parse(s); got != (api.Rule{}) || f != (api.Fault{Errno: want, At: at}) {
						t.Errorf("Parse(%q) = %v, %d, not %d at %d", s, got, f, want, at)
					}
				}
			}
		}
	}
}

func TestParseOfEveryNumber(t *testing.T) {
	for n := range 1100 {
		for _, word := range []string{strconv.Itoa(n), "0" + strconv.Itoa(n), "-" + strconv.Itoa(n)} {
			for at := range 7 {
				words := strings.Split(exampleText, " ")
				words[at] = word
				check(t, strings.Join(words, " "))
			}
		}
	}
}

func TestParseOfAlmostRules(t *testing.T) {
	for _, s := range []string{exampleText, "::/0 ::/0 * * * * 15", "2001:db8::/33 ::1/128 1024-65535 0-79 6 cs0 15"} {
		for _, text := range almost.Texts(s) {
			check(t, text)
		}
	}
}

func TestParseOfDrawnWords(t *testing.T) {
	draw := rand.New(rand.NewSource(175))
	words := [7][]string{
		{"10.0.0.0/8", "0.0.0.0/0", "::/0", "1.2.3.4/32", "::1/128"}, {"10.0.0.0/8", "0.0.0.0/0", "::/0", "1.2.3.4/32", "::1/128"},
		{"*", "0", "53", "1-2", "0-65535"}, {"*", "0", "53", "1-2", "0-65535"}, {"*", "0", "6", "255"}, {"*", "0", "63", "ef", "af11", "cs7", "le"}, {"0", "1", "9", "10", "15"},
	}
	bad := wrong()
	right := 0
	for range 100000 {
		l := make([]string, 7)
		for at := range l {
			l[at] = from(draw, words[at]...)
			if draw.Intn(20) == 0 {
				var errnos []api.Errno
				for e := range bad[at] {
					errnos = append(errnos, e)
				}
				slices.Sort(errnos)
				l[at] = from(draw, bad[at][from(draw, errnos...)]...)
			}
		}
		switch draw.Intn(20) {
		case 0:
			l = l[:draw.Intn(7)]
		case 1:
			l = append(l, from(draw, "", "2", "*"))
		}
		s := strings.Join(l, " ")
		check(t, s)
		if _, f := rule.Parse(s); f.Errno == api.OK {
			right++
		}
	}
	if right < 20000 {
		t.Errorf("%d texts were right", right)
	}
}

// P17.6

func TestParseOfPrint(t *testing.T) {
	draw := rand.New(rand.NewSource(176))
	round := func(r api.Rule) {
		t.Helper()
		if got, f := rule.Parse(rule.Print(r)); got != r || f != (api.Fault{}) {
			t.Fatalf("Parse(%q) = %v, %d, not %v", rule.Print(r), got, f, r)
		}
	}
	for _, r := range []api.Rule{example(), six()} {
		for proto := -1; proto <= 255; proto++ {
			r.Proto = proto
			round(r)
		}
		for dscp := -1; dscp <= 63; dscp++ {
			for class := range 16 {
				r.Dscp, r.Class = dscp, class
				round(r)
			}
		}
	}
	for range 50000 {
		round(drawRule(draw))
	}
}

func TestParsedIsValid(t *testing.T) {
	for _, s := range []string{exampleText, "::/0 ::/0 * * * * 15", "2001:db8::/33 ::1/128 1024-65535 0-79 6 cs0 15"} {
		count := 0
		for _, text := range almost.Texts(s) {
			r, f := rule.Parse(text)
			if f.Errno != api.OK {
				continue
			}
			count++
			if e := rule.Check(r); e != api.OK {
				t.Errorf("Check of Parse(%q) = %d", text, e)
			}
		}
		if count < 20 {
			t.Errorf("%d texts like %q were right", count, s)
		}
	}
}

// P5 of the general rules: a call answers the same whatever was called ahead of it.
func TestNothingIsKept(t *testing.T) {
	for range 3 {
		if got, f := rule.Parse(exampleText); got != example() || f != (api.Fault{}) {
			t.Errorf("Parse = %v, %d", got, f)
		}
		// What is parsed ahead of a wrong word takes no effect.
		if got, f := rule.Parse("10.0.0.0/8 10.1.0.0/16 1 53 17 ef 16"); got != (api.Rule{}) || f != (api.Fault{Errno: api.ErrClass, At: 6}) {
			t.Errorf("Parse = %v, %d", got, f)
		}
		if got := rule.Print(example()); got != exampleText {
			t.Errorf("Print = %q", got)
		}
		if !rule.Matches(example(), key()) || rule.Matches(six(), key()) || rule.Check(example()) != api.OK || rule.Check(rule.Any(4, 16)) != api.ErrClass {
			t.Error("Matches or Check is not right")
		}
	}
}
