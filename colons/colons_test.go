package colons_test

import (
	"bytes"
	"encoding/binary"
	"math"
	"math/rand"
	"net/netip"
	"strconv"
	"strings"
	"testing"

	"weighbridge/almost"
	"weighbridge/api"
	"weighbridge/colons"
)

// of tells the address of eight groups.
func of(groups ...uint16) (a [16]byte) {
	for i, g := range groups {
		binary.BigEndian.PutUint16(a[2*i:], g)
	}
	return a
}

// patterned are addresses that have a zero group at each place where a bit of the pattern is 0.
func patterned(pattern int) [][16]byte {
	var l [][16]byte
	for _, g := range []uint16{1, 0xa, 0x10, 0x0db8, 0xf00, 0x1000, 0xffff} {
		var groups [8]uint16
		for i := range groups {
			groups[i] = g * uint16(pattern>>i&1)
		}
		l = append(l, of(groups[:]...))
	}
	return l
}

// addresses are those of all patterns of zero groups, those at the edges of the sorts, and drawn ones, the same ones in each run.
func addresses() [][16]byte {
	var l [][16]byte
	for pattern := range 256 {
		l = append(l, patterned(pattern)...)
	}
	for x := range 256 {
		l = append(l, [16]byte{byte(x)}, [16]byte{15: byte(x)}, [16]byte{0xfe, byte(x)}, [16]byte{10: 255, 11: byte(x)}, [16]byte{10: 255, 11: 255, 12: byte(x), 15: byte(x)})
	}
	draw := rand.New(rand.NewSource(6))
	for range 5000 {
		var a [16]byte
		draw.Read(a[:])
		l = append(l, a)
		for range draw.Intn(8) {
			copy(a[2*draw.Intn(8):], []byte{0, 0})
		}
		l = append(l, a)
	}
	return l
}

// full tells all groups of an address in the shortest digits.
func full(a [16]byte) []string {
	var parts []string
	for i := 0; i < 16; i += 2 {
		parts = append(parts, strconv.FormatInt(int64(binary.BigEndian.Uint16(a[i:])), 16))
	}
	return parts
}

// printed tells by search what Print tells: the first one of the longest runs of "0:" becomes the two colons.
func printed(a [16]byte) string {
	s := ":" + strings.Join(full(a), ":") + ":"
	for n := 8; n >= 2; n-- {
		run := ":" + strings.Repeat("0:", n)
		if at := strings.Index(s, run); at >= 0 {
			return strings.TrimPrefix(s[:at], ":") + "::" + strings.TrimSuffix(s[at+len(run):], ":")
		}
	}
	return strings.Trim(s, ":")
}

// P6.1

func TestGroup(t *testing.T) {
	a := [16]byte{0x80, 0x01, 0xfe, 0x7f, 0x00, 0xff, 0x10, 0x0f, 0xa5, 0x5a, 0xc3, 0x3c, 0x99, 0x66, 0xf0, 0x02}
	for i, want := range []uint16{0x8001, 0xfe7f, 0x00ff, 0x100f, 0xa55a, 0xc33c, 0x9966, 0xf002} {
		if got := colons.Group(a, i); got != want {
			t.Errorf("Group(%d) = %x, not %x", i, got, want)
		}
	}
	for _, a := range addresses() {
		for i := range 8 {
			if got, want := colons.Group(a, i), binary.BigEndian.Uint16(a[2*i:]); got != want {
				t.Fatalf("Group(%x, %d) = %x, not %x", a, i, got, want)
			}
		}
	}
}

func TestGroupThatIsNotThere(t *testing.T) {
	a := [16]byte(bytes.Repeat([]byte{255}, 16))
	for _, i := range []int{-1, -2, -8, 8, 9, 15, 16, 17, 256, 1 << 31, 1 << 32, math.MaxInt / 2, math.MaxInt/2 + 1, math.MinInt / 2, math.MaxInt, math.MaxInt - 1, math.MinInt, math.MinInt + 1} {
		if got := colons.Group(a, i); got != 0 {
			t.Errorf("Group(%d) = %x", i, got)
		}
	}
}

// P6.2

func TestPrint(t *testing.T) {
	cases := map[string][16]byte{
		"2001:db8::1:0:0:1": of(0x2001, 0xdb8, 0, 0, 1, 0, 0, 1),
		"::":                {},
		"::1":               of(0, 0, 0, 0, 0, 0, 0, 1),
		"1::":               of(1),
		"1:2:3:4:5:6:7:8":   of(1, 2, 3, 4, 5, 6, 7, 8),
		"1:0:3:4:5:6:7:8":   of(1, 0, 3, 4, 5, 6, 7, 8),
		"0:2:3:4:5:6:7:8":   of(0, 2, 3, 4, 5, 6, 7, 8),
		"1:2:3:4:5:6:7:0":   of(1, 2, 3, 4, 5, 6, 7, 0),
		"0:1:0:1:0:1:0:1":   of(0, 1, 0, 1, 0, 1, 0, 1),
		"1::4:5:6:7:8":      of(1, 0, 0, 4, 5, 6, 7, 8),
		"::3:4:5:6:7:8":     of(0, 0, 3, 4, 5, 6, 7, 8),
		"1:2:3:4:5:6::":     of(1, 2, 3, 4, 5, 6, 0, 0),
		"::1:0:0:1:0:0":     of(0, 0, 1, 0, 0, 1, 0, 0),
		"0:0:1::1":          of(0, 0, 1, 0, 0, 0, 0, 1),
		"::1:0:0:1:1":       of(0, 0, 0, 1, 0, 0, 1, 1),
		"1:0:0:1::":         of(1, 0, 0, 1, 0, 0, 0, 0),
		"1:0:0:1::1":        of(1, 0, 0, 1, 0, 0, 0, 1),
		"::1:0:0:0":         of(0, 0, 0, 0, 1, 0, 0, 0),
		"1::1:0:0:0":        of(1, 0, 0, 0, 1, 0, 0, 0),
		"::ffff:102:304":    of(0, 0, 0, 0, 0, 0xffff, 0x102, 0x304),
		"::102:304":         of(0, 0, 0, 0, 0, 0, 0x102, 0x304),
		"ffff:ffff:ffff:ffff:ffff:ffff:ffff:ffff": of(0xffff, 0xffff, 0xffff, 0xffff, 0xffff, 0xffff, 0xffff, 0xffff),
		"abcd:ef01:2345:6789:a:b0:c00:d000":       of(0xabcd, 0xef01, 0x2345, 0x6789, 0xa, 0xb0, 0xc00, 0xd000),
	}
	for want, a := range cases {
		if got := colons.Print(a); got != want {
			t.Errorf("Print(%x) = %q, not %q", a, got, want)
		}
	}
	for _, a := range addresses() {
		if got, want := colons.Print(a), printed(a); got != want {
			t.Fatalf("Print(%x) = %q, not %q", a, got, want)
		}
	}
}

func TestPrintOfEveryGroup(t *testing.T) {
	for g := range 65536 {
		want := "1:2:3:4:5:6:7:" + strconv.FormatInt(int64(g), 16)
		if got := colons.Print(of(1, 2, 3, 4, 5, 6, 7, uint16(g))); got != want {
			t.Fatalf("Print with %x = %q, not %q", g, got, want)
		}
	}
}

// P6.3

// check holds Parse against the library's parser, which accepts zones and addresses of version 4 alone, too.
func check(t *testing.T, s string) {
	t.Helper()
	var want [16]byte
	f := api.ErrForm
	if x, err := netip.ParseAddr(s); err == nil && !x.Is4() && x.Zone() == "" {
		want, f = x.As16(), api.OK
	}
	if got, e := colons.Parse(s); got != want || e != f {
		t.Errorf("Parse(%q) = %x, %d, not %x, %d", s, got, e, want, f)
	}
}

func TestParse(t *testing.T) {
	cases := map[string][16]byte{
		"2001:0DB8:0:0:1:0:0:1": of(0x2001, 0xdb8, 0, 0, 1, 0, 0, 1),
		"::":                    {},
		"::1":                   of(0, 0, 0, 0, 0, 0, 0, 1),
		"1::":                   of(1),
		"1:2:3:4:5:6:7:8":       of(1, 2, 3, 4, 5, 6, 7, 8),
		"0:0:0:0:0:0:0:0":       {},
		"0000:0000:0000:0000:0000:0000:0000:0001": of(0, 0, 0, 0, 0, 0, 0, 1),
		"1:2:3:4:5:6:7::":                         of(1, 2, 3, 4, 5, 6, 7, 0),
		"::2:3:4:5:6:7:8":                         of(0, 2, 3, 4, 5, 6, 7, 8),
		"1::3:4:5:6:7:8":                          of(1, 0, 3, 4, 5, 6, 7, 8),
		"1:2::8":                                  of(1, 2, 0, 0, 0, 0, 0, 8),
		"1::7:8":                                  of(1, 0, 0, 0, 0, 0, 7, 8),
		"1::0:8":                                  of(1, 0, 0, 0, 0, 0, 0, 8),
		"0::0":                                    {},
		"ABCD:EF01:abcd:ef01:aBcD:Ef01:F:00a":     of(0xabcd, 0xef01, 0xabcd, 0xef01, 0xabcd, 0xef01, 0xf, 0xa),
		"1:2:3:4:5:6:1.2.3.4":                     of(1, 2, 3, 4, 5, 6, 0x102, 0x304),
		"::1.2.3.4":                               of(0, 0, 0, 0, 0, 0, 0x102, 0x304),
		"::FFFF:255.254.253.0":                    of(0, 0, 0, 0, 0, 0xffff, 0xfffe, 0xfd00),
		"1::1.2.3.4":                              of(1, 0, 0, 0, 0, 0, 0x102, 0x304),
		"1:2:3:4:5::1.2.3.4":                      of(1, 2, 3, 4, 5, 0, 0x102, 0x304),
		"::2:3:4:5:6:1.2.3.4":                     of(0, 2, 3, 4, 5, 6, 0x102, 0x304),
		"::0.0.0.0":                               {},
		"0:0:0:0:0:0:0.0.0.1":                     of(0, 0, 0, 0, 0, 0, 0, 1),
	}
	for s, want := range cases {
		if got, e := colons.Parse(s); got != want || e != api.OK {
			t.Errorf("Parse(%q) = %x, %d, not %x", s, got, e, want)
		}
		check(t, s)
	}
}

func TestParseForm(t *testing.T) {
	for _, s := range []string{
		"", ":", ":::", "::::", "1", "1:", ":1", "1:2:3:4:5:6:7", "1:2:3:4:5:6:7:8:9", "1:2:3:4:5:6:7:8:", ":1:2:3:4:5:6:7:8", "1:2:3:4:5:6:7:", ":2:3:4:5:6:7:8",
		"1:2:3:4:5:6:7::8", "::1:2:3:4:5:6:7:8", "1:2:3:4:5:6:7:8::", "1::2:3:4:5:6:7:8", "1:2:3:4::5:6:7:8", "1:2:3:4:5:6:7:8::9", "::1:2:3:4:5:6:7:8:9",
		"1::2::3", "::1::", "1::::2", "1:::2", ":::1", "1:::", "::1:", ":1::", ":1::2", "1::2:", "::1::2", "1::2::",
		"12345::", "::00001", "1:2:3:4:5:6:7:00008", "::10000", "g::", "::G", "::-1", "::+1", "::0x1", "::1 ", " ::1", ":: 1", "::1\n", "::1\x00", "::\xff", "::é", "::１",
		"fe80::1%eth0", "::1%", "[::1]", "::1/128", "1_0::",
		"1.2.3.4", "1.2.3.4::", "1.2.3.4:1:2:3:4:5:6", "::1.2.3.4:5", "1:2:3:4:5:6:7:1.2.3.4", "1:2:3:4:5:1.2.3.4", "1:2:3:4:5:6::1.2.3.4", "::1:2:3:4:5:6:1.2.3.4",
		"1:2:3:4:5:6:7::1.2.3.4", "::1.2.3.4:1.2.3.4", "1:1.2.3.4:5:6:7:8:9", "::1.2.3.4::", "1.2.3.4::1.2.3.4", "1.2.3.4:1.2.3.4:1.2.3.4:1.2.3.4", ":1.2.3.4", ":::1.2.3.4",
		"::256.0.0.0", "::1.2.3.256", "::1.2.3.04", "::1.2.3", "::1.2.3.", "::.1.2.3", "::1.2.3.4.5", "::1.2.3.4.", "::a.2.3.4", "::1..3.4", "::1.2.3.4 ",
		"1:2:3:4:5:6:256.0.0.0", "1:2:3:4:5:6:1.2.3.00", "::00.0.0.0",
	} {
		if got, e := colons.Parse(s); got != [16]byte{} || e != api.ErrForm {
			t.Errorf("Parse(%q) = %x, %d, not ErrForm", s, got, e)
		}
		check(t, s)
	}
}

// Each text of no to ten groups, with no gap or one at each place, with and without an address of version 4 at the end.
func TestParseOfEveryCountOfGroups(t *testing.T) {
	for n := range 11 {
		for gap := -1; gap <= n; gap++ {
			for _, tail := range []string{"", "1.2.3.4"} {
				var parts []string
				for i := range n {
					parts = append(parts, strconv.FormatInt(int64(i+0xa), 16))
				}
				if tail != "" {
					parts = append(parts, tail)
				}
				s := strings.Join(parts, ":")
				if gap >= 0 {
					s = strings.Join(parts[:gap], ":") + "::" + strings.Join(parts[gap:], ":")
				}
				want := n == 8 && tail == "" || n == 6 && tail != ""
				if gap >= 0 {
					want = n < 8 && tail == "" || n < 6 && tail != ""
				}
				if _, e := colons.Parse(s); (e == api.OK) != want {
					t.Errorf("Parse(%q) = %d", s, e)
				}
				check(t, s)
			}
		}
	}
}

// Every group in up to four digits, and in capital ones, and with zeros ahead of it.
func TestParseOfEveryGroup(t *testing.T) {
	for g := range 65536 {
		s := strconv.FormatInt(int64(g), 16)
		for _, text := range []string{s, strings.ToUpper(s), strings.Repeat("0", 4-len(s)) + s} {
			if got, e := colons.Parse("1:2:3:" + text + "::9"); got != of(1, 2, 3, uint16(g), 0, 0, 0, 9) || e != api.OK {
				t.Fatalf("Parse with %q = %x, %d", text, got, e)
			}
		}
	}
}

func TestParseOfAlmostAddresses(t *testing.T) {
	for _, s := range []string{"::", "1::", "::9", "1:2:3:4:5:6:7:8", "1:2::Fa:8", "1:2:3:4:5:6:1.2.3.4", "::ffff:10.20.255.0", "1:2:3:4:5::1.2.3.4"} {
		for _, text := range almost.Texts(s) {
			check(t, text)
		}
	}
}

func TestParseOfDrawnTexts(t *testing.T) {
	draw := rand.New(rand.NewSource(7))
	parts := []string{":", ":", ":", ":", "::", "0", "1", "a", "F", "12", "abcd", "00", "1.2.3.4", "255.0.0.256", ".", "g"}
	for range 500000 {
		var s strings.Builder
		for range draw.Intn(19) {
			s.WriteString(parts[draw.Intn(len(parts))])
		}
		check(t, s.String())
	}
}

func TestParseOfLongTexts(t *testing.T) {
	for _, part := range []string{":", "::", "1", "1:", ".", "1.", "0"} {
		s := strings.Repeat(part, 1<<20)
		for _, text := range []string{s, "1::" + s, s + "::", "::1." + s, s + ":1.2.3.4"} {
			if got, e := colons.Parse(text); got != [16]byte{} || e != api.ErrForm {
				t.Errorf("Parse of %d times %q = %x, %d", 1<<20, part, got, e)
			}
		}
	}
}

// P6.4

func TestMap(t *testing.T) {
	draw := rand.New(rand.NewSource(8))
	l := [][4]byte{{}, {1, 2, 3, 4}, {255, 255, 255, 255}, {255, 0, 0, 255}, {0, 0, 0, 1}, {1}}
	for range 1000 {
		l = append(l, [4]byte(binary.BigEndian.AppendUint32(nil, draw.Uint32())))
	}
	for _, a := range l {
		want := [16]byte{0, 0, 0, 0, 0, 0, 0, 0, 0, 0, 255, 255, a[0], a[1], a[2], a[3]}
		if got := colons.Map(a); got != want {
			t.Errorf("Map(%d) = %x", a, got)
		}
		if got, ok := colons.Unmap(want); got != a || !ok {
			t.Errorf("Unmap(%x) = %d, %v", want, got, ok)
		}
	}
}

func TestUnmapOfOthers(t *testing.T) {
	good := colons.Map([4]byte{9, 8, 7, 6})
	for at := range 12 {
		for x := range 256 {
			a := good
			a[at] = byte(x)
			got, ok := colons.Unmap(a)
			if a == good {
				if got != [4]byte{9, 8, 7, 6} || !ok {
					t.Errorf("Unmap(%x) = %d, %v", a, got, ok)
				}
			} else if got != [4]byte{} || ok {
				t.Errorf("Unmap(%x) = %d, %v", a, got, ok)
			}
		}
	}
	for _, a := range addresses() {
		got, ok := colons.Unmap(a)
		four := netip.AddrFrom16(a).Is4In6()
		var want [4]byte
		if four {
			copy(want[:], a[12:])
		}
		if got != want || ok != four {
			t.Fatalf("Unmap(%x) = %d, %v", a, got, ok)
		}
	}
}

// P6.5

func TestSort(t *testing.T) {
	cases := map[string][]string{
		"none":    {"::"},
		"loop":    {"::1"},
		"four":    {"::ffff:0:0", "::ffff:0:1", "::ffff:7f00:1", "::ffff:ffff:ffff", "::ffff:a00:1"},
		"group":   {"ff00::", "ff02::1", "ff02::1:ff00:1", "ffff:ffff:ffff:ffff:ffff:ffff:ffff:ffff", "ff00::ffff:102:304"},
		"link":    {"fe80::", "fe80::1", "fe81::", "febf::", "febf:ffff:ffff:ffff:ffff:ffff:ffff:ffff", "fe80::ffff:102:304"},
		"private": {"fc00::", "fc00::1", "fcff::", "fd00::", "fdff:ffff:ffff:ffff:ffff:ffff:ffff:ffff", "fc80::"},
		"host": {"::2", "::100", "::1:0", "1::", "1::1", "100::1", "2001:db8::1", "fe7f:ffff::", "fe00::", "fec0::", "feff::", "fbff::", "fe::", "ff::", "fc::",
			"::ffff:0:0:0", "::fffe:1:2", "::feff:1:2", "1::ffff:1:2", "::1:ffff:1:2", "::102:304", "::fffe", "7f00:1::", "80fe::", "7e80::", "be80::", "7c00::"},
	}
	for want, l := range cases {
		for _, s := range l {
			if got := colons.Sort(netip.MustParseAddr(s).As16()); got != want {
				t.Errorf("Sort of %s = %q, not %q", s, got, want)
			}
		}
	}
}

// sortOf tells by the library's prefixes what Sort tells.
func sortOf(a [16]byte) string {
	x := netip.AddrFrom16(a)
	sorts := [][2]string{{"::/128", "none"}, {"::1/128", "loop"}, {"", "four"}, {"ff00::/8", "group"}, {"fe80::/10", "link"}, {"fc00::/7", "private"}}
	for _, s := range sorts {
		if s[0] == "" && x.Is4In6() || s[0] != "" && netip.MustParsePrefix(s[0]).Contains(x) {
			return s[1]
		}
	}
	return "host"
}

func TestSortOfEveryFirstGroup(t *testing.T) {
	for g := range 65536 {
		for _, last := range []uint16{0, 1, 0xffff} {
			a := of(uint16(g), 0, 0, 0, 0, 0, 0, last)
			if got, want := colons.Sort(a), sortOf(a); got != want {
				t.Fatalf("Sort(%x) = %q, not %q", a, got, want)
			}
		}
	}
}

func TestSortOfAddresses(t *testing.T) {
	for _, a := range addresses() {
		if got, want := colons.Sort(a), sortOf(a); got != want {
			t.Fatalf("Sort(%x) = %q, not %q", a, got, want)
		}
	}
	// Each byte alone makes an address another one than none, and than loop.
	for at := range 16 {
		for x := range 256 {
			for _, last := range []byte{0, 1} {
				a := [16]byte{15: last}
				a[at] = byte(x)
				if got, want := colons.Sort(a), sortOf(a); got != want {
					t.Fatalf("Sort(%x) = %q, not %q", a, got, want)
				}
			}
		}
	}
}

// P6.6

func TestParseOfPrint(t *testing.T) {
	for _, a := range addresses() {
		if got, e := colons.Parse(colons.Print(a)); got != a || e != api.OK {
			t.Fatalf("Parse of what Print tells of %x = %x, %d", a, got, e)
		}
	}
}

// Each text that leaves zero groups out at any place of an address is accepted for it, and the printed one is longer by a byte at most.
func TestNoTextIsMuchShorter(t *testing.T) {
	for pattern := range 256 {
		for _, a := range patterned(pattern) {
			parts := full(a)
			most := len(colons.Print(a)) - 1
			for from := range 8 {
				for to := from + 1; to <= 8 && parts[to-1] == "0"; to++ {
					s := strings.Join(parts[:from], ":") + "::" + strings.Join(parts[to:], ":")
					if got, e := colons.Parse(s); got != a || e != api.OK || len(s) < most {
						t.Fatalf("Parse(%q) = %x, %d, of %q", s, got, e, colons.Print(a))
					}
				}
			}
			s := strings.Join(parts, ":")
			if got, e := colons.Parse(s); got != a || e != api.OK || len(s) < most {
				t.Fatalf("Parse(%q) = %x, %d, of %q", s, got, e, colons.Print(a))
			}
		}
	}
}

// P5 of the general rules: a call answers the same whatever was called ahead of it.
func TestNothingIsKept(t *testing.T) {
	a := of(0x2001, 0xdb8, 0, 0, 1, 0, 0, 1)
	for range 3 {
		if got, e := colons.Parse("2001:db8::1:0:0:1"); got != a || e != api.OK {
			t.Errorf("Parse = %x, %d", got, e)
		}
		if got, e := colons.Parse("::1.2.3.4"); got != of(0, 0, 0, 0, 0, 0, 0x102, 0x304) || e != api.OK {
			t.Errorf("Parse = %x, %d", got, e)
		}
		if got, e := colons.Parse("1:2"); got != [16]byte{} || e != api.ErrForm {
			t.Errorf("Parse of two groups = %x, %d", got, e)
		}
		if got := colons.Print(a); got != "2001:db8::1:0:0:1" {
			t.Errorf("Print = %q", got)
		}
		if got, ok := colons.Unmap(a); got != [4]byte{} || ok {
			t.Errorf("Unmap = %d, %v", got, ok)
		}
		if got, ok := colons.Unmap(colons.Map([4]byte{1, 2, 3, 4})); got != [4]byte{1, 2, 3, 4} || !ok {
			t.Errorf("Unmap = %d, %v", got, ok)
		}
		if got := colons.Sort(a); got != "host" {
			t.Errorf("Sort = %q", got)
		}
	}
}
