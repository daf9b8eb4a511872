package dotted_test

import (
	"encoding/binary"
	"math"
	"math/rand"
	"net/netip"
	"regexp"
	"strconv"
	"strings"
	"testing"

	"weighbridge/almost"
	"weighbridge/api"
	"weighbridge/dotted"
)

// edges are bytes at all edges of digits and of the sorts of addresses.
func edges() []byte {
	return []byte{0, 1, 9, 10, 11, 15, 16, 17, 30, 31, 32, 99, 100, 101, 126, 127, 128, 167, 168, 169, 170, 171, 172, 173,
		191, 192, 193, 199, 200, 223, 224, 225, 239, 240, 241, 253, 254, 255}
}

// addresses are all that have two bytes of the edges in each half, and some drawn ones, the same ones in each run.
func addresses() [][4]byte {
	var l [][4]byte
	for _, x := range edges() {
		for _, y := range edges() {
			l = append(l, [4]byte{x, y, 0, 0}, [4]byte{0, 0, x, y}, [4]byte{255, 255, x, y}, [4]byte{x, y, 255, 255}, [4]byte{y, x, x, y})
		}
	}
	draw := rand.New(rand.NewSource(5))
	for range 10000 {
		l = append(l, [4]byte(binary.BigEndian.AppendUint32(nil, draw.Uint32())))
	}
	return l
}

// P5.1

func TestPrint(t *testing.T) {
	cases := map[[4]byte]string{
		{}: "0.0.0.0", {1, 2, 3, 4}: "1.2.3.4", {10, 32, 0, 1}: "10.32.0.1", {255, 255, 255, 255}: "255.255.255.255",
		{9, 10, 99, 100}: "9.10.99.100", {100, 0, 200, 7}: "100.0.200.7", {0, 0, 0, 1}: "0.0.0.1", {1, 0, 0, 0}: "1.0.0.0",
	}
	for a, want := range cases {
		if got := dotted.Print(a); got != want {
			t.Errorf("Print(%d) = %q, not %q", a, got, want)
		}
	}
	for _, a := range addresses() {
		if got, want := dotted.Print(a), netip.AddrFrom4(a).String(); got != want {
			t.Fatalf("Print(%d) = %q, not %q", a, got, want)
		}
	}
}

func TestPrintOfEveryByte(t *testing.T) {
	for x := range 256 {
		for at := range 4 {
			a, parts := [4]byte{1, 1, 1, 1}, []string{"1", "1", "1", "1"}
			a[at], parts[at] = byte(x), strconv.Itoa(x)
			if got, want := dotted.Print(a), strings.Join(parts, "."); got != want {
				t.Errorf("Print(%d) = %q, not %q", a, got, want)
			}
		}
	}
}

// P5.2

// form is the form that the document asks of a text.
var form = regexp.MustCompile(`\A(0|[1-9][0-9]{0,2})\.(0|[1-9][0-9]{0,2})\.(0|[1-9][0-9]{0,2})\.(0|[1-9][0-9]{0,2})\z`)

// reference tells what the document says of a text.
func reference(s string) (a [4]byte, e api.Errno) {
	parts := form.FindStringSubmatch(s)
	if parts == nil {
		return a, api.ErrForm
	}
	for i, part := range parts[1:] {
		n, _ := strconv.Atoi(part)
		if n > 255 {
			return [4]byte{}, api.ErrRange
		}
		a[i] = byte(n)
	}
	return a, api.OK
}

func check(t *testing.T, s string) {
	t.Helper()
	want, f := reference(s)
	if got, e := dotted.Parse(s); got != want || e != f {
		t.Errorf("Parse(%q) = %d, %d, not %d, %d", s, got, e, want, f)
	}
}

func TestParse(t *testing.T) {
	cases := map[string][4]byte{
		"0.0.0.0": {}, "1.2.3.4": {1, 2, 3, 4}, "255.255.255.255": {255, 255, 255, 255}, "10.32.0.1": {10, 32, 0, 1},
		"9.10.99.100": {9, 10, 99, 100}, "0.0.0.255": {0, 0, 0, 255}, "255.0.0.0": {255}, "249.250.251.252": {249, 250, 251, 252},
	}
	for s, want := range cases {
		if got, e := dotted.Parse(s); got != want || e != api.OK {
			t.Errorf("Parse(%q) = %d, %d, not %d", s, got, e, want)
		}
	}
}

func TestParseForm(t *testing.T) {
	for _, s := range []string{
		"", ".", "...", "....", "1", "1.2", "1.2.3", "1.2.3.", ".1.2.3", "1.2.3.4.", ".1.2.3.4", "1..2.3", "1.2..4", "1.2.3.4.5", "1...4",
		"10.0.00.1", "00.0.0.0", "01.2.3.4", "1.02.3.4", "1.2.3.04", "1.2.3.004", "001.2.3.4", "1.2.3.000", "0.0.0.00",
		"300.0.0", "256", "256.256.256", "256.0.0.0.0", "1000.0.0.0", "0.0.0.1000", "0.0.0.0000", "1.2.3.99999999999999999999",
		" 1.2.3.4", "1.2.3.4 ", "1. 2.3.4", "1.2.3.4\n", "\t1.2.3.4", "1.2.3.4\x00", "1.2.3.4/8", "1,2,3,4", "1:2:3:4",
		"+1.2.3.4", "-1.2.3.4", "1.2.3.-0", "1.2.3.+4", "1.2.3.0x4", "a.b.c.d", "1.2.3.f", "1.2.3.4a", "1_0.2.3.4", "1e1.2.3.4",
		"1.2.3.\u0664", "1.2.3.\xff", "1.2.3./", "1.2.3.:", "１.2.3.4", "1。2。3。4",
	} {
		if got, e := dotted.Parse(s); got != [4]byte{} || e != api.ErrForm {
			t.Errorf("Parse(%q) = %d, %d, not ErrForm", s, got, e)
		}
	}
}

func TestParseRange(t *testing.T) {
	for _, s := range []string{
		"10.0.0.256", "256.0.0.0", "0.256.0.0", "0.0.256.0", "0.0.0.256", "0.0.0.257", "0.0.0.260", "0.0.0.300", "0.0.0.512", "0.0.0.999",
		"256.256.256.256", "999.999.999.999", "255.255.255.256", "999.1.2.3", "256.1.999.3",
	} {
		if got, e := dotted.Parse(s); got != [4]byte{} || e != api.ErrRange {
			t.Errorf("Parse(%q) = %d, %d, not ErrRange", s, got, e)
		}
	}
}

// The form of the whole text ranks ahead of the size of any number in it, wherever the two stand.
func TestParseFormAheadOfRange(t *testing.T) {
	for _, s := range []string{
		"256.0.0.00", "256.0.0.", "256.0.0.x", "256.00.0.0", "0.0.256.01", "00.0.0.256", "x.0.0.256", "0.0.0.256.", ".256.0.0", "999.999.999.1000",
	} {
		if got, e := dotted.Parse(s); got != [4]byte{} || e != api.ErrForm {
			t.Errorf("Parse(%q) = %d, %d, not ErrForm", s, got, e)
		}
	}
}

// Numbers of up to four digits, with none to two zeros ahead of them, in each of the places.
func TestParseOfEveryNumber(t *testing.T) {
	for n := range 1100 {
		for _, zeros := range []string{"", "0", "00"} {
			for at := range 4 {
				parts := []string{"1", "20", "3", "0"}
				parts[at] = zeros + strconv.Itoa(n)
				check(t, strings.Join(parts, "."))
			}
		}
	}
}

func TestParseOfAlmostAddresses(t *testing.T) {
	for _, s := range []string{"0.0.0.0", "1.2.3.4", "25.255.10.9", "255.255.255.255"} {
		for _, text := range almost.Texts(s) {
			check(t, text)
		}
	}
}

func TestParseOfDrawnTexts(t *testing.T) {
	draw := rand.New(rand.NewSource(6))
	const letters = "0125....a "
	for range 300000 {
		s := make([]byte, draw.Intn(17))
		for i := range s {
			s[i] = letters[draw.Intn(len(letters))]
		}
		check(t, string(s))
	}
}

func TestParseOfLongTexts(t *testing.T) {
	for _, s := range []string{strings.Repeat(".", 1<<20), strings.Repeat("1", 1<<20), strings.Repeat("1.", 1<<20), "1.2.3." + strings.Repeat("0", 1<<20)} {
		if got, e := dotted.Parse(s); got != [4]byte{} || e != api.ErrForm {
			t.Errorf("Parse of %d bytes = %d, %d", len(s), got, e)
		}
	}
}

// P5.3

func TestNumAndOf(t *testing.T) {
	cases := map[[4]byte]uint32{
		{}: 0, {0, 0, 0, 1}: 1, {0, 0, 1, 0}: 256, {0, 1, 0, 0}: 65536, {1, 0, 0, 0}: 1 << 24, {1, 2, 3, 4}: 0x01020304,
		{128, 0, 0, 0}: 1 << 31, {255, 255, 255, 255}: math.MaxUint32, {192, 168, 0, 1}: 0xc0a80001,
	}
	for a, n := range cases {
		if got := dotted.Num(a); got != n {
			t.Errorf("Num(%d) = %x, not %x", a, got, n)
		}
		if got := dotted.Of(n); got != a {
			t.Errorf("Of(%x) = %d, not %d", n, got, a)
		}
	}
	for _, a := range addresses() {
		n := binary.BigEndian.Uint32(a[:])
		if got := dotted.Num(a); got != n {
			t.Fatalf("Num(%d) = %x, not %x", a, got, n)
		}
		if got := dotted.Of(n); got != a {
			t.Fatalf("Of(%x) = %d, not %d", n, got, a)
		}
	}
}

func TestNext(t *testing.T) {
	cases := map[[4]byte][4]byte{
		{}: {0, 0, 0, 1}, {0, 0, 0, 255}: {0, 0, 1, 0}, {0, 0, 255, 255}: {0, 1, 0, 0}, {0, 255, 255, 255}: {1, 0, 0, 0},
		{127, 255, 255, 255}: {128, 0, 0, 0}, {255, 255, 255, 254}: {255, 255, 255, 255}, {10, 0, 0, 9}: {10, 0, 0, 10},
	}
	for a, want := range cases {
		if got, ok := dotted.Next(a); got != want || !ok {
			t.Errorf("Next(%d) = %d, %v, not %d", a, got, ok, want)
		}
	}
	for _, a := range addresses() {
		want := netip.AddrFrom4(a).Next()
		if !want.IsValid() {
			continue
		}
		if got, ok := dotted.Next(a); got != want.As4() || !ok {
			t.Fatalf("Next(%d) = %d, %v, not %v", a, got, ok, want)
		}
	}
}

func TestNextOfTheLastAddress(t *testing.T) {
	if got, ok := dotted.Next([4]byte{255, 255, 255, 255}); got != [4]byte{} || ok {
		t.Errorf("Next = %d, %v", got, ok)
	}
}

// P5.4

func TestSort(t *testing.T) {
	cases := map[string][][4]byte{
		"none":    {{}},
		"all":     {{255, 255, 255, 255}},
		"loop":    {{127, 0, 0, 1}, {127}, {127, 255, 255, 255}, {127, 168, 1, 1}},
		"private": {{10}, {10, 255, 255, 255}, {172, 16}, {172, 16, 0, 1}, {172, 31, 255, 255}, {172, 20, 1, 2}, {192, 168}, {192, 168, 255, 255}},
		"link":    {{169, 254}, {169, 254, 1, 2}, {169, 254, 255, 255}},
		"group":   {{224}, {224, 0, 0, 1}, {230, 1, 2, 3}, {239, 255, 255, 255}},
		"kept":    {{240}, {240, 0, 0, 1}, {250, 1, 2, 3}, {255}, {255, 255, 255, 254}, {254, 255, 255, 255}, {255, 255, 254, 255}, {255, 254, 255, 255}},
		"host": {{0, 0, 0, 1}, {0, 0, 1, 0}, {0, 1, 0, 0}, {1}, {8, 8, 8, 8}, {9, 255, 255, 255}, {11}, {126, 255, 255, 255}, {128}, {168, 254},
			{169, 253, 255, 255}, {169, 255}, {170, 254}, {172, 15, 255, 255}, {172, 32}, {171, 16}, {173, 16}, {192, 167, 255, 255}, {192, 169},
			{191, 168}, {193, 168}, {172, 168}, {192, 16}, {223, 255, 255, 255}, {0, 10}, {0, 127}},
	}
	for want, l := range cases {
		for _, a := range l {
			if got := dotted.Sort(a); got != want {
				t.Errorf("Sort(%d) = %q, not %q", a, got, want)
			}
		}
	}
}

// sortOf tells by the library's questions what Sort tells.
func sortOf(a [4]byte) string {
	x := netip.AddrFrom4(a)
	switch {
	case x.IsUnspecified():
		return "none"
	case x == netip.MustParseAddr("255.255.255.255"):
		return "all"
	case x.IsLoopback():
		return "loop"
	case x.IsPrivate():
		return "private"
	case x.IsLinkLocalUnicast():
		return "link"
	case x.IsMulticast():
		return "group"
	case netip.MustParsePrefix("240.0.0.0/4").Contains(x):
		return "kept"
	}
	return "host"
}

func TestSortOfEveryTwoBytes(t *testing.T) {
	for n := range 65536 {
		for _, end := range [][2]byte{{}, {0, 1}, {1, 0}, {255, 255}, {168, 254}} {
			a := [4]byte{byte(n >> 8), byte(n), end[0], end[1]}
			if got, want := dotted.Sort(a), sortOf(a); got != want {
				t.Fatalf("Sort(%d) = %q, not %q", a, got, want)
			}
		}
	}
}

// P5.5

func TestParseOfPrint(t *testing.T) {
	for _, a := range addresses() {
		if got, e := dotted.Parse(dotted.Print(a)); got != a || e != api.OK {
			t.Fatalf("Parse of what Print tells of %d = %d, %d", a, got, e)
		}
	}
}

func TestPrintOfParse(t *testing.T) {
	draw := rand.New(rand.NewSource(7))
	const letters = "0123456789"
	accepted := 0
	for range 300000 {
		var parts [4]string
		for i := range parts {
			for range 1 + draw.Intn(3) {
				parts[i] += letters[draw.Intn(10):][:1]
			}
		}
		s := strings.Join(parts[:], ".")
		a, e := dotted.Parse(s)
		if e != api.OK {
			continue
		}
		accepted++
		if got := dotted.Print(a); got != s {
			t.Fatalf("Print of what Parse tells of %q = %q", s, got)
		}
	}
	if accepted < 1000 {
		t.Errorf("only %d texts were accepted", accepted)
	}
}

// P5 of the general rules: a call answers the same whatever was called ahead of it.
func TestNothingIsKept(t *testing.T) {
	for range 3 {
		if got, e := dotted.Parse("1.2.3.4"); got != [4]byte{1, 2, 3, 4} || e != api.OK {
			t.Errorf("Parse = %d, %d", got, e)
		}
		if got, e := dotted.Parse("1.2.3.256"); got != [4]byte{} || e != api.ErrRange {
			t.Errorf("Parse of a great number = %d, %d", got, e)
		}
		if got, e := dotted.Parse("1.2.3"); got != [4]byte{} || e != api.ErrForm {
			t.Errorf("Parse of three numbers = %d, %d", got, e)
		}
		if got := dotted.Print([4]byte{4, 3, 2, 1}); got != "4.3.2.1" {
			t.Errorf("Print = %q", got)
		}
		if got, ok := dotted.Next([4]byte{4, 3, 2, 1}); got != [4]byte{4, 3, 2, 2} || !ok {
			t.Errorf("Next = %d, %v", got, ok)
		}
		if got := dotted.Sort([4]byte{4, 3, 2, 1}); got != "host" {
			t.Errorf("Sort = %q", got)
		}
	}
}
