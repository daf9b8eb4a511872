package fourhead_test

import (
	"bytes"
	"fmt"
	"math"
	"math/rand"
	"reflect"
	"slices"
	"strconv"
	"testing"

	"weighbridge/api"
	"weighbridge/fourhead"
)

// plain is a header without options, its checksum in it.
func plain() []byte {
	return []byte{0x45, 0, 0, 0x73, 0, 0, 0x40, 0, 0x40, 0x11, 0xb8, 0x61, 0xc0, 0xa8, 0, 0x01, 0xc0, 0xa8, 0, 0xc7}
}

// with tells the plain header with options, which end with zeros.
func with(options ...byte) []byte {
	b := append(plain(), options...)
	for len(b)%4 != 0 {
		b = append(b, 0)
	}
	b[0] = 0x40 | byte(len(b)/4)
	return b
}

// drawn are headers that Read tells, of every length and with anything behind them, the same ones in each run.
func drawn(seed int64, each int) [][]byte {
	draw := rand.New(rand.NewSource(seed))
	var l [][]byte
	for ihl := 5; ihl <= 15; ihl++ {
		for range each {
			b := make([]byte, 4*ihl+draw.Intn(30))
			draw.Read(b)
			b[0] = 0x40 | byte(ihl)
			l = append(l, b)
		}
	}
	return l
}

// bits tells some bits of bytes as a number, taken from their digits.
func bits(b []byte, from, count int) int {
	digits := ""
	for _, x := range b[:20] {
		digits += fmt.Sprintf("%08b", x)
	}
	n, _ := strconv.ParseInt(digits[from:from+count], 2, 64)
	return int(n)
}

// exact tells the fields of a header, bit by bit.
func exact(b []byte) api.Four {
	return api.Four{
		Ihl: bits(b, 4, 4), Tos: bits(b, 8, 8), Total: bits(b, 16, 16), Id: bits(b, 32, 16), Flags: bits(b, 48, 3), Offset: bits(b, 51, 13),
		Ttl: bits(b, 64, 8), Proto: bits(b, 72, 8), Sum: bits(b, 80, 16),
		Src: [4]byte{b[12], b[13], b[14], b[15]}, Dst: [4]byte{b[16], b[17], b[18], b[19]},
	}
}

// exactSum tells whether a header has its checksum in it: its words come to a multiple of FFFF, and not to nothing.
func exactSum(b []byte) bool {
	total := 0
	for i := 0; i < len(b); i += 2 {
		total += int(b[i])*256 + int(b[i+1])
	}
	return total > 0 && total%65535 == 0
}

// broken are bytes with which no header begins, and their defects.
func broken() []struct {
	b []byte
	d api.Defect
} {
	return []struct {
		b []byte
		d api.Defect
	}{
		{nil, api.DefEmpty}, {[]byte{}, api.DefEmpty},
		{[]byte{0x65}, api.DefVersion}, {[]byte{0x05}, api.DefVersion}, {[]byte{0x01}, api.DefVersion}, {[]byte{0x54}, api.DefVersion}, {[]byte{0x35}, api.DefVersion},
		{append([]byte{0x60}, make([]byte, 39)...), api.DefVersion}, {append([]byte{0xc5}, make([]byte, 19)...), api.DefVersion},
		{[]byte{0x45}, api.DefShort}, {[]byte{0x40}, api.DefShort}, {[]byte{0x4f}, api.DefShort}, {plain()[:19], api.DefShort}, {append([]byte{0x44}, make([]byte, 18)...), api.DefShort},
		{append([]byte{0x44}, make([]byte, 19)...), api.DefIhl}, {append([]byte{0x40}, make([]byte, 99)...), api.DefIhl}, {append([]byte{0x41}, plain()...), api.DefIhl},
		{append([]byte{0x46}, make([]byte, 19)...), api.DefHead}, {append([]byte{0x46}, make([]byte, 22)...), api.DefHead}, {append([]byte{0x4f}, make([]byte, 58)...), api.DefHead},
	}
}

// P10.1

func TestRead(t *testing.T) {
	want := api.Four{
		Ihl: 5, Total: 0x73, Flags: 2, Ttl: 64, Proto: 17, Sum: 0xb861, Src: [4]byte{192, 168, 0, 1}, Dst: [4]byte{192, 168, 0, 199},
	}
	if got, d := fourhead.Read(plain()); got != want || d != api.Sound {
		t.Errorf("Read = %v, %d", got, d)
	}
	b := []byte{0x46, 0xb9, 0x12, 0x34, 0x56, 0x78, 0xb2, 0xcd, 0x9a, 0xbc, 0xde, 0xf0, 1, 2, 3, 4, 5, 6, 7, 8, 1, 7, 2, 0}
	want = api.Four{
		Ihl: 6, Tos: 0xb9, Total: 0x1234, Id: 0x5678, Flags: 5, Offset: 0x12cd, Ttl: 0x9a, Proto: 0xbc, Sum: 0xdef0, Src: [4]byte{1, 2, 3, 4}, Dst: [4]byte{5, 6, 7, 8},
	}
	if got, d := fourhead.Read(b); got != want || d != api.Sound {
		t.Errorf("Read = %v, %d", got, d)
	}
}

func TestReadOfEveryBit(t *testing.T) {
	for _, ground := range []byte{0, 0xff} {
		for at := 8; at < 160; at++ {
			b := bytes.Repeat([]byte{ground}, 60)
			b[0] = 0x45
			b[at/8] ^= 0x80 >> (at % 8)
			if got, d := fourhead.Read(b); got != exact(b) || d != api.Sound {
				t.Errorf("Read(%x) = %v, %d, not %v", b, got, d, exact(b))
			}
		}
	}
	for _, b := range drawn(13, 100) {
		if got, d := fourhead.Read(b); got != exact(b) || d != api.Sound {
			t.Errorf("Read(%x) = %v, %d, not %v", b, got, d, exact(b))
		}
	}
}

func TestReadDefects(t *testing.T) {
	for _, c := range broken() {
		if got, d := fourhead.Read(c.b); got != (api.Four{}) || d != c.d {
			t.Errorf("Read(%x) = %v, %d, not %d", c.b, got, d, c.d)
		}
	}
}

// defect tells the defect of so many bytes by the first one's digits.
func defect(first string, n int) api.Defect {
	ihl, _ := strconv.ParseInt(first[1:], 16, 64)
	switch {
	case n == 0:
		return api.DefEmpty
	case first[0] != '4':
		return api.DefVersion
	case n <= 19:
		return api.DefShort
	case ihl <= 4:
		return api.DefIhl
	case int(ihl) > n/4:
		return api.DefHead
	}
	return api.Sound
}

func TestReadOfEveryFirstByteAndLength(t *testing.T) {
	for first := range 256 {
		for n := range 70 {
			b := append([]byte{byte(first)}, bytes.Repeat([]byte{0xa5}, 69)...)[:n]
			want := defect(fmt.Sprintf("%02x", first), n)
			got, d := fourhead.Read(b)
			if d != want || d != api.Sound && got != (api.Four{}) || d == api.Sound && got != exact(b) {
				t.Errorf("Read(%x) = %v, %d, not %d", b, got, d, want)
			}
		}
	}
}

// P10.2

// parsed tells the options in bytes, one by one, and whether they are right.
func parsed(b []byte) ([]api.Ext, bool) {
	switch {
	case len(b) == 0 || b[0] == 0:
		return nil, true
	case b[0] == 1:
		rest, ok := parsed(b[1:])
		return append([]api.Ext{{Kind: 1}}, rest...), ok
	case len(b) == 1 || b[1] < 2 || int(b[1]) > len(b):
		return nil, false
	}
	rest, ok := parsed(b[b[1]:])
	return append([]api.Ext{{Kind: int(b[0]), Body: b[2:b[1]]}}, rest...), ok
}

// alike tells whether options are the same, be their bodies nil or empty.
func alike(a, b []api.Ext) bool {
	return slices.EqualFunc(a, b, func(x, y api.Ext) bool { return x.Kind == y.Kind && bytes.Equal(x.Body, y.Body) })
}

func checkOptions(t *testing.T, b []byte) {
	t.Helper()
	want, right := parsed(b[20 : 4*int(b[0]&15)])
	if !right {
		want = nil
	}
	got, ok := fourhead.Options(b)
	if !alike(got, want) || ok != right || !ok && got != nil {
		t.Errorf("Options(%x) = %v, %v, not %v, %v", b, got, ok, want, right)
	}
}

func TestOptions(t *testing.T) {
	cases := []struct {
		options []byte
		want    []api.Ext
	}{
		{nil, nil}, {[]byte{0, 0, 0, 0}, nil}, {[]byte{0, 7, 0, 99}, nil}, {[]byte{1, 0, 7, 0}, []api.Ext{{Kind: 1}}}, {[]byte{1, 1, 1, 1}, []api.Ext{{Kind: 1}, {Kind: 1}, {Kind: 1}, {Kind: 1}}},
		{[]byte{1, 7, 2, 0}, []api.Ext{{Kind: 1}, {Kind: 7}}}, {[]byte{7, 4, 0, 1}, []api.Ext{{Kind: 7, Body: []byte{0, 1}}}}, {[]byte{7, 3, 9, 0}, []api.Ext{{Kind: 7, Body: []byte{9}}}},
		{[]byte{7, 2, 8, 2}, []api.Ext{{Kind: 7}, {Kind: 8}}}, {[]byte{7, 3, 0, 1}, []api.Ext{{Kind: 7, Body: []byte{0}}, {Kind: 1}}}, {[]byte{255, 4, 255, 254}, []api.Ext{{Kind: 255, Body: []byte{255, 254}}}},
		{[]byte{2, 2, 0, 1}, []api.Ext{{Kind: 2}}}, {[]byte{148, 4, 0, 0, 1, 7, 5, 1, 2, 3, 0, 0}, []api.Ext{{Kind: 148, Body: []byte{0, 0}}, {Kind: 1}, {Kind: 7, Body: []byte{1, 2, 3}}}},
	}
	for _, c := range cases {
		if got, ok := fourhead.Options(append(with(c.options...), 7, 1)); !alike(got, c.want) || !ok {
			t.Errorf("Options behind %x = %v, %v, not %v", c.options, got, ok, c.want)
		}
	}
}

func TestOptionsMalformed(t *testing.T) {
	for _, options := range [][]byte{
		{1, 1, 1, 7}, {1, 1, 1, 2}, {1, 1, 1, 255}, {7, 0, 0, 0}, {7, 1, 0, 0}, {7, 5, 0, 0}, {7, 255, 0, 0}, {1, 7, 4, 0}, {1, 1, 7, 3}, {7, 2, 7, 3}, {7, 3, 0, 7},
		{1, 1, 1, 1, 7, 5, 0, 0}, {7, 6, 0, 0, 0, 0, 7, 0}, {2, 0, 0, 0}, {255, 1, 1, 1},
	} {
		// What is behind the header could be the rest of an option, and is not.
		b := append(with(options...), 2, 2, 2, 2, 2, 2)
		if got, ok := fourhead.Options(b); got != nil || ok {
			t.Errorf("Options behind %x = %v, %v", options, got, ok)
		}
	}
}

func TestOptionsOfEveryFew(t *testing.T) {
	few := []byte{0, 1, 2, 3, 4, 5, 6, 7, 255}
	for n := range 9 * 9 * 9 * 9 {
		checkOptions(t, append(with(few[n%9], few[n/9%9], few[n/81%9], few[n/729]), 0, 3, 3, 3))
	}
	for kind := range 256 {
		for size := range 256 {
			checkOptions(t, append(with(byte(kind), byte(size), 9, 2, 8, 4, 1, 7, 3, 0, 0, 1), bytes.Repeat([]byte{1}, 300)...))
			checkOptions(t, append(with(append([]byte{byte(kind), byte(size)}, bytes.Repeat([]byte{1}, 38)...)...), 0, 0))
		}
	}
}

func TestOptionsOfDrawnHeaders(t *testing.T) {
	draw := rand.New(rand.NewSource(17))
	for _, b := range drawn(19, 2000) {
		for at := 20; at < 4*int(b[0]&15); at++ {
			b[at] = byte(draw.Intn(8)) * byte(draw.Intn(2))
		}
		checkOptions(t, b)
	}
}

func TestOptionsOfNoHeader(t *testing.T) {
	for _, c := range broken() {
		if got, ok := fourhead.Options(c.b); got != nil || ok {
			t.Errorf("Options(%x) = %v, %v", c.b, got, ok)
		}
	}
}

// P10.3

// packet is a packet with some of the defects that All may tell, and the numbers that make them.
type packet struct {
	options             []byte
	total, offset, size int
	spoilt              bool
}

// bytes tells a packet's bytes, with the right checksum unless it is spoilt.
func (p packet) bytes() []byte {
	b := with(p.options...)
	b[2], b[3], b[6], b[7], b[10], b[11] = byte(p.total>>8), byte(p.total), byte(p.offset>>8), byte(p.offset), 0, 0
	total := 0
	for i := 0; i < len(b); i += 2 {
		total += int(b[i])*256 + int(b[i+1])
	}
	sum := 65535 - total%65535
	if p.spoilt {
		sum ^= 1
	}
	b[10], b[11] = byte(sum>>8), byte(sum)
	return append(b, bytes.Repeat([]byte{0x77}, max(p.size-len(b), 0))...)
}

func TestAll(t *testing.T) {
	good, bad := []byte{1, 7, 3, 0}, []byte{1, 7, 4, 0}
	cases := []struct {
		p    packet
		want []api.Defect
	}{
		{packet{nil, 20, 0, 20, false}, nil}, {packet{nil, 25, 0, 25, false}, nil}, {packet{nil, 25, 0, 99, false}, nil}, {packet{good, 24, 0, 24, false}, nil}, {packet{nil, 65535, 0, 65535, false}, nil},
		{packet{nil, 19, 0, 20, false}, []api.Defect{api.DefTotal}}, {packet{nil, 0, 0, 99, false}, []api.Defect{api.DefTotal}}, {packet{good, 23, 0, 24, false}, []api.Defect{api.DefTotal}},
		{packet{nil, 21, 0, 20, false}, []api.Defect{api.DefCut}}, {packet{good, 100, 0, 99, false}, []api.Defect{api.DefCut}}, {packet{nil, 65535, 0, 65534, false}, []api.Defect{api.DefCut}},
		{packet{bad, 24, 0, 24, false}, []api.Defect{api.DefOption}}, {packet{nil, 20, 0, 20, true}, []api.Defect{api.DefSum}},
		{packet{nil, 20, 8191, 20, false}, nil}, {packet{nil, 27, 8191, 27, false}, nil}, {packet{nil, 28, 8191, 28, false}, []api.Defect{api.DefEnd}},
		{packet{good, 31, 8191, 31, false}, nil}, {packet{good, 32, 8191, 32, false}, []api.Defect{api.DefEnd}}, {packet{nil, 35, 8190, 35, false}, nil}, {packet{nil, 36, 8190, 36, false}, []api.Defect{api.DefEnd}},
		{packet{nil, 65535, 2, 65535, false}, nil}, {packet{nil, 65535, 3, 65535, false}, []api.Defect{api.DefEnd}}, {packet{nil, 28, 4095, 28, false}, nil},
		// The three bits ahead of the offset count for nothing.
		{packet{nil, 27, 0xffff, 27, false}, nil}, {packet{nil, 28, 0xffff, 28, false}, []api.Defect{api.DefEnd}}, {packet{nil, 28, 0xe000, 28, false}, nil},
		// With no data ahead of the end of the header there is no end beyond the greatest.
		{packet{nil, 19, 8191, 20, false}, []api.Defect{api.DefTotal}}, {packet{nil, 0, 8191, 99, true}, []api.Defect{api.DefTotal, api.DefSum}},
		{packet{nil, 28, 8191, 27, false}, []api.Defect{api.DefCut, api.DefEnd}}, {packet{bad, 0, 8191, 24, true}, []api.Defect{api.DefTotal, api.DefOption, api.DefSum}},
		{packet{bad, 9999, 8191, 24, true}, []api.Defect{api.DefCut, api.DefOption, api.DefSum, api.DefEnd}}, {packet{bad, 24, 0, 24, true}, []api.Defect{api.DefOption, api.DefSum}},
	}
	for _, c := range cases {
		if got := fourhead.All(c.p.bytes()); !slices.Equal(got, c.want) {
			t.Errorf("All of %v = %d, not %d", c.p, got, c.want)
		}
	}
}

// applies tells the defects of a header that is told whole.
func applies(b []byte) []api.Defect {
	f := exact(b)
	_, right := parsed(b[20 : 4*f.Ihl])
	var l []api.Defect
	for d := api.DefTotal; d <= api.DefData; d++ {
		if d == api.DefTotal && f.Total < 4*f.Ihl || d == api.DefCut && f.Total > len(b) || d == api.DefOption && !right || d == api.DefSum && !exactSum(b[:4*f.Ihl]) ||
			d == api.DefEnd && f.Total >= 4*f.Ihl && f.Offset*8+f.Total-4*f.Ihl >= 65536 {
			l = append(l, d)
		}
	}
	return l
}

func TestAllOfDrawnPackets(t *testing.T) {
	draw := rand.New(rand.NewSource(23))
	for range 20000 {
		p := packet{total: draw.Intn(90), offset: draw.Intn(8192), size: draw.Intn(90), spoilt: draw.Intn(2) == 0}
		for range draw.Intn(4) * 4 {
			p.options = append(p.options, byte(draw.Intn(6)))
		}
		if draw.Intn(2) == 0 {
			p.offset = 8191 - draw.Intn(8)
		}
		b := p.bytes()
		if got, want := fourhead.All(b), applies(b); !slices.Equal(got, want) {
			t.Fatalf("All(%x) = %d, not %d", b, got, want)
		}
	}
	for _, b := range drawn(29, 1000) {
		if got, want := fourhead.All(b), applies(b); !slices.Equal(got, want) {
			t.Fatalf("All(%x) = %d, not %d", b, got, want)
		}
	}
}

func TestAllOfNoHeader(t *testing.T) {
	for _, c := range broken() {
		if got := fourhead.All(c.b); !slices.Equal(got, []api.Defect{c.d}) {
			t.Errorf("All(%x) = %d, not %d", c.b, got, c.d)
		}
	}
}

// P10.4

// numbers are the numbers of a header with the least and the greatest that each may be.
func numbers(f *api.Four) []struct {
	n         *int
	low, high int
} {
	return []struct {
		n         *int
		low, high int
	}{
		{&f.Ihl, 5, 15}, {&f.Tos, 0, 255}, {&f.Total, 0, 65535}, {&f.Id, 0, 65535}, {&f.Flags, 0, 7}, {&f.Offset, 0, 8191}, {&f.Ttl, 0, 255}, {&f.Proto, 0, 255}, {&f.Sum, 0, 65535},
	}
}

func TestWrite(t *testing.T) {
	f := api.Four{
		Ihl: 6, Tos: 0xb9, Total: 0x1234, Id: 0x5678, Flags: 5, Offset: 0x12cd, Ttl: 0x9a, Proto: 0xbc, Sum: 0xdef0, Src: [4]byte{1, 2, 3, 4}, Dst: [4]byte{5, 6, 7, 8},
	}
	want := []byte{0x46, 0xb9, 0x12, 0x34, 0x56, 0x78, 0xb2, 0xcd, 0x9a, 0xbc, 0xde, 0xf0, 1, 2, 3, 4, 5, 6, 7, 8, 9, 0, 255, 4}
	if got, e := fourhead.Write(f, []byte{9, 0, 255, 4}); !bytes.Equal(got, want) || e != api.OK {
		t.Errorf("Write = %x, %d", got, e)
	}
	if got, e := fourhead.Write(api.Four{Ihl: 5}, nil); !bytes.Equal(got, append([]byte{0x45}, make([]byte, 19)...)) || e != api.OK {
		t.Errorf("Write of nothing = %x, %d", got, e)
	}
}

func TestWriteOfEveryNumber(t *testing.T) {
	for i := range numbers(&api.Four{}) {
		high := numbers(&api.Four{})[i].high
		for _, n := range []int{5, 6, 7, 8, 15, 16, 128, 255, 256, 4096, 8190, 8191, 8192, 32768, 65534, 65535} {
			if n > high {
				continue
			}
			f := api.Four{Ihl: 5}
			*numbers(&f)[i].n = n
			b, e := fourhead.Write(f, make([]byte, 4*f.Ihl-20))
			if e != api.OK || len(b) != 4*f.Ihl || b[0]>>4 != 4 || exact(b) != f {
				t.Errorf("Write(%v) = %x, %d", f, b, e)
			}
		}
	}
}

func TestWriteOutOfRange(t *testing.T) {
	refuse := func(f api.Four, options []byte) {
		if got, e := fourhead.Write(f, options); got != nil || e != api.ErrRange {
			t.Errorf("Write(%v, %x) = %x, %d", f, options, got, e)
		}
	}
	for i, x := range numbers(&api.Four{}) {
		for _, n := range []int{x.low - 1, x.high + 1, -1, -x.high - 1, 1 << 32, 1<<32 + 5, math.MaxInt, math.MinInt, math.MinInt + 5} {
			f := api.Four{Ihl: 5}
			*numbers(&f)[i].n = n
			refuse(f, nil)
			// The range ranks ahead of how many options there are, also if they are as many as an Ihl out of range would have.
			refuse(f, []byte{1, 1, 1})
			refuse(f, make([]byte, max(min(4*f.Ihl-20, 100), 0)))
		}
	}
}

func TestWriteOfOtherLengths(t *testing.T) {
	for ihl := 5; ihl <= 15; ihl++ {
		for n := range 70 {
			f, options := api.Four{Ihl: ihl}, bytes.Repeat([]byte{1}, n)
			b, e := fourhead.Write(f, options)
			if n != 4*(ihl-5) {
				if b != nil || e != api.ErrShort {
					t.Errorf("Write of %d words and %d bytes = %x, %d", ihl, n, b, e)
				}
				continue
			}
			if e != api.OK || len(b) != 4*ihl || !bytes.Equal(b[20:], options) || exact(b) != f {
				t.Errorf("Write of %d words and %d bytes = %x, %d", ihl, n, b, e)
			}
		}
	}
}

// P10.5

func TestSeal(t *testing.T) {
	b := plain()
	b[10], b[11] = 0, 0
	if got, e := fourhead.Seal(b); !bytes.Equal(got, plain()) || e != api.OK {
		t.Errorf("Seal = %x, %d", got, e)
	}
	for _, b := range slices.Concat(drawn(31, 200), [][]byte{plain(), with(1, 7, 3, 9), append(plain(), 1), append(with(1), bytes.Repeat([]byte{255}, 999)...)}) {
		got, e := fourhead.Seal(b)
		if e != api.OK || len(got) != len(b) || !bytes.Equal(got[:10], b[:10]) || !bytes.Equal(got[12:], b[12:]) || !exactSum(got[:4*int(b[0]&15)]) {
			t.Fatalf("Seal(%x) = %x, %d", b, got, e)
		}
		// Of 0 and FFFF, which sums hold for the same, the checksum of a header is 0.
		if got[10] == 255 && got[11] == 255 {
			t.Errorf("Seal(%x) = %x", b, got)
		}
	}
}

func TestSealOfASumOfNothing(t *testing.T) {
	b := append([]byte{0x45}, make([]byte, 19)...)
	b[4], b[5] = 0xba, 0xff
	if got, e := fourhead.Seal(b); !bytes.Equal(got, b) || e != api.OK {
		t.Errorf("Seal(%x) = %x, %d", b, got, e)
	}
}

func TestSealOfNoHeader(t *testing.T) {
	for _, c := range broken() {
		if got, e := fourhead.Seal(c.b); got != nil || e != api.ErrForm {
			t.Errorf("Seal(%x) = %x, %d", c.b, got, e)
		}
	}
}

// P10.6

func TestReadOfWrite(t *testing.T) {
	draw := rand.New(rand.NewSource(37))
	for range 5000 {
		var f api.Four
		for _, x := range numbers(&f) {
			*x.n = x.low + draw.Intn(x.high-x.low+1)
		}
		draw.Read(f.Src[:])
		draw.Read(f.Dst[:])
		b, e := fourhead.Write(f, make([]byte, 4*f.Ihl-20))
		if e != api.OK {
			t.Fatalf("Write(%v) = %d", f, e)
		}
		if got, d := fourhead.Read(b); got != f || d != api.Sound {
			t.Fatalf("Read(%x) = %v, %d, not %v", b, got, d, f)
		}
	}
}

func TestWriteOfRead(t *testing.T) {
	for _, b := range drawn(41, 200) {
		f, _ := fourhead.Read(b)
		size := 4 * f.Ihl
		if got, e := fourhead.Write(f, b[20:size]); !bytes.Equal(got, b[:size]) || e != api.OK {
			t.Fatalf("Write(%v) = %x, %d, not %x", f, got, e, b[:size])
		}
	}
}

func TestASealedHeaderHasItsSum(t *testing.T) {
	for _, b := range append(drawn(43, 3), plain()) {
		sealed, _ := fourhead.Seal(b)
		if slices.Contains(fourhead.All(sealed), api.DefSum) {
			t.Errorf("%x has a wrong sum", sealed)
		}
		for at := 8; at < 8*4*int(b[0]&15); at++ {
			other := bytes.Clone(sealed)
			other[at/8] ^= 0x80 >> (at % 8)
			if !slices.Contains(fourhead.All(other), api.DefSum) {
				t.Errorf("%x, of which bit %d was flipped, has the right sum", other, at)
			}
		}
	}
}

// P3 of the general rules

func TestArgumentsStay(t *testing.T) {
	whole := append(with(1, 7, 3, 9, 8, 4, 5, 6), bytes.Repeat([]byte{0x5a}, 40)...)
	kept := bytes.Clone(whole)
	for _, n := range []int{0, 10, 20, 27, 28, 40} {
		b := whole[:n]
		fourhead.Read(b)
		fourhead.Options(b)
		fourhead.All(b)
		fourhead.Seal(b)
		fourhead.Write(api.Four{Ihl: 7}, whole[20:28])
		fourhead.Write(api.Four{Ihl: 5}, whole[20:20])
		if !bytes.Equal(whole, kept) {
			t.Fatalf("the argument became %x", whole)
		}
	}
}

// spoil changes all that a slice has room for.
func spoil(b []byte) {
	b = b[:cap(b)]
	for i := range b {
		b[i] ^= 0xff
	}
}

func TestResultsAreNewMemory(t *testing.T) {
	b := with(7, 4, 5, 6, 8, 3, 9, 7, 2, 1)
	kept, f := bytes.Clone(b), exact(b)
	want, _ := fourhead.Options(b)
	first, _ := fourhead.Options(b)
	for i, o := range first {
		spoil(o.Body)
		if rest, _ := fourhead.Options(b); !alike(first[i+1:], rest[i+1:]) {
			t.Errorf("option %d shares its body with another one", i)
		}
	}
	wrote, _ := fourhead.Write(f, b[20:])
	spoil(wrote)
	sealed, _ := fourhead.Seal(append(b, 1, 2, 3))
	spoil(sealed)
	defects := fourhead.All(b)
	for i := range defects {
		defects[i] = 99
	}
	if !bytes.Equal(b, kept) {
		t.Errorf("a result shares memory with the argument: %x", b)
	}
	if again, _ := fourhead.Options(b); !alike(again, want) || len(want) != 4 {
		t.Errorf("Options = %v, not %v", again, want)
	}
	if again, _ := fourhead.Write(f, b[20:]); !bytes.Equal(again, kept) {
		t.Errorf("Write = %x, not %x", again, kept)
	}
	if again := fourhead.All(b); !slices.Equal(again, applies(b)) {
		t.Errorf("All = %d", again)
	}
}

func TestOnlyTheLengthCounts(t *testing.T) {
	whole := append(with(1, 7, 3, 9, 8, 4, 5, 6), bytes.Repeat([]byte{0x5a}, 40)...)
	told := func(b []byte) []any {
		f, d := fourhead.Read(b)
		options, ok := fourhead.Options(b)
		sealed, e := fourhead.Seal(b)
		wrote, g := fourhead.Write(api.Four{Ihl: 5 + len(b)/4}, b)
		return []any{f, d, options, ok, fourhead.All(b), sealed, e, wrote, g}
	}
	for n := range whole {
		if got, want := told(whole[:n]), told(bytes.Clone(whole[:n:n])); !reflect.DeepEqual(got, want) {
			t.Errorf("of %d bytes %v is told, not %v", n, got, want)
		}
	}
}

// P5 of the general rules: a call answers the same whatever was called ahead of it.
func TestNothingIsKept(t *testing.T) {
	for range 3 {
		if got, ok := fourhead.Options(with(1, 7, 2, 0)); !alike(got, []api.Ext{{Kind: 1}, {Kind: 7}}) || !ok {
			t.Errorf("Options = %v, %v", got, ok)
		}
		if got := fourhead.All(append(plain(), make([]byte, 95)...)); got != nil {
			t.Errorf("All = %d", got)
		}
		if got := fourhead.All(plain()); !slices.Equal(got, []api.Defect{api.DefCut}) {
			t.Errorf("All of a header alone = %d", got)
		}
		if got, d := fourhead.Read(plain()[:19]); got != (api.Four{}) || d != api.DefShort {
			t.Errorf("Read = %v, %d", got, d)
		}
		if got, e := fourhead.Seal(nil); got != nil || e != api.ErrForm {
			t.Errorf("Seal = %x, %d", got, e)
		}
	}
}
