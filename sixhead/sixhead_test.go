package sixhead_test

import (
	"bytes"
	"fmt"
	"math"
	"math/rand"
	"reflect"
	"slices"
	"strconv"
	"testing"

	"weighbridge/api"
	"weighbridge/extwalk"
	"weighbridge/sixhead"
)

// plain is a header whose bytes are unlike each other: class B8, flow 12345, a payload of 5 bytes of Udp, and 64 hops.
func plain() []byte {
	return []byte{
		0x6b, 0x81, 0x23, 0x45, 0, 5, 17, 64,
		0x20, 0x01, 0x0d, 0xb8, 4, 5, 6, 7, 8, 9, 10, 11, 12, 13, 14, 15,
		0xfe, 0x80, 18, 19, 20, 21, 22, 23, 24, 25, 26, 27, 28, 29, 30, 31,
	}
}

// packet tells a packet with so many bytes in its header's payload, the number of what follows, and what is behind the header.
func packet(payload, next int, rest ...byte) []byte {
	b := plain()
	b[4], b[5], b[6] = byte(payload>>8), byte(payload), byte(next)
	return append(b, rest...)
}

// whole tells a packet whose payload is all that is behind its header.
func whole(next int, rest ...byte) []byte {
	return packet(len(rest), next, rest...)
}

// drawn are bytes with which a header begins, with anything behind it, the same ones in each run.
func drawn(seed int64, n int) [][]byte {
	draw := rand.New(rand.NewSource(seed))
	var l [][]byte
	for range n {
		b := make([]byte, 40+draw.Intn(60))
		draw.Read(b)
		b[0] = 0x60 | b[0]&15
		l = append(l, b)
	}
	return l
}

// bits tells some bits of a header as a number, taken from their digits.
func bits(b []byte, from, count int) int {
	digits := ""
	for _, x := range b[:8] {
		digits += fmt.Sprintf("%08b", x)
	}
	n, _ := strconv.ParseInt(digits[from:from+count], 2, 64)
	return int(n)
}

// exact tells the fields of a header, bit by bit.
func exact(b []byte) api.Six {
	s := api.Six{Class: bits(b, 4, 8), Flow: bits(b, 12, 20), Payload: bits(b, 32, 16), Next: bits(b, 48, 8), Hop: bits(b, 56, 8)}
	for i := range 16 {
		s.Src[i], s.Dst[i] = b[8+i], b[24+i]
	}
	return s
}

// broken are bytes with which no header begins, and their defects.
func broken() []struct {
	b []byte
	d api.Defect
} {
	return []struct {
		b []byte
		d api.Defect
	}{
		{nil, api.DefEmpty}, {[]byte{}, api.DefEmpty},
		{[]byte{0x45}, api.DefVersion}, {[]byte{0x06}, api.DefVersion}, {[]byte{0x56}, api.DefVersion}, {[]byte{0x70}, api.DefVersion}, {[]byte{0xe6}, api.DefVersion}, {[]byte{0x26}, api.DefVersion},
		{append([]byte{0x46}, make([]byte, 99)...), api.DefVersion}, {make([]byte, 40), api.DefVersion}, {append([]byte{0x7b}, plain()[1:]...), api.DefVersion},
		{[]byte{0x60}, api.DefShort}, {[]byte{0x6f}, api.DefShort}, {plain()[:8], api.DefShort}, {plain()[:39], api.DefShort}, {append([]byte{0x64}, make([]byte, 38)...), api.DefShort},
	}
}

// P12.1

func TestRead(t *testing.T) {
	want := api.Six{
		Class: 0xb8, Flow: 0x12345, Payload: 5, Next: 17, Hop: 64,
		Src: [16]byte{0x20, 0x01, 0x0d, 0xb8, 4, 5, 6, 7, 8, 9, 10, 11, 12, 13, 14, 15}, Dst: [16]byte{0xfe, 0x80, 18, 19, 20, 21, 22, 23, 24, 25, 26, 27, 28, 29, 30, 31},
	}
	for _, b := range [][]byte{plain(), append(plain(), 1, 2, 3)} {
		if got, d := sixhead.Read(b); got != want || d != api.Sound {
			t.Errorf("Read(%x) = %v, %d", b, got, d)
		}
	}
	if got, d := sixhead.Read(append([]byte{0x60}, make([]byte, 39)...)); got != (api.Six{}) || d != api.Sound {
		t.Errorf("Read of zeros = %v, %d", got, d)
	}
	got, d := sixhead.Read(append([]byte{0x6f}, bytes.Repeat([]byte{0xff}, 39)...))
	if got.Class != 255 || got.Flow != 1048575 || got.Payload != 65535 || got.Next != 255 || got.Hop != 255 || d != api.Sound {
		t.Errorf("Read of ones = %v, %d", got, d)
	}
}

func TestReadOfEveryBit(t *testing.T) {
	for _, ground := range []byte{0, 0xff} {
		for at := 4; at < 320; at++ {
			b := bytes.Repeat([]byte{ground}, 60)
			b[0] = 0x60 | ground&15
			b[at/8] ^= 0x80 >> (at % 8)
			if got, d := sixhead.Read(b); got != exact(b) || d != api.Sound {
				t.Errorf("Read(%x) = %v, %d, not %v", b, got, d, exact(b))
			}
		}
	}
	for _, b := range drawn(13, 1000) {
		if got, d := sixhead.Read(b); got != exact(b) || d != api.Sound {
			t.Errorf("Read(%x) = %v, %d, not %v", b, got, d, exact(b))
		}
	}
}

func TestReadDefects(t *testing.T) {
	for _, c := range broken() {
		if got, d := sixhead.Read(c.b); got != (api.Six{}) || d != c.d {
			t.Errorf("Read(%x) = %v, %d, not %d", c.b, got, d, c.d)
		}
	}
}

func TestReadOfEveryFirstByteAndLength(t *testing.T) {
	for first := range 256 {
		for n := range 50 {
			b := append([]byte{byte(first)}, bytes.Repeat([]byte{0xa5}, 69)...)[:n]
			want := api.Sound
			switch {
			case n == 0:
				want = api.DefEmpty
			case fmt.Sprintf("%02x", first)[0] != '6':
				want = api.DefVersion
			case n <= 39:
				want = api.DefShort
			}
			got, d := sixhead.Read(b)
			if d != want || d != api.Sound && got != (api.Six{}) || d == api.Sound && got != exact(b) {
				t.Errorf("Read(%x) = %v, %d, not %d", b, got, d, want)
			}
		}
	}
}

// P12.2

func TestRest(t *testing.T) {
	cases := []struct {
		b, want []byte
		ok      bool
	}{
		{packet(0, 17), nil, true}, {packet(0, 17, 1, 2, 3), nil, true}, {packet(1, 17, 1, 2, 3), []byte{1}, true}, {packet(3, 17, 1, 2, 3), []byte{1, 2, 3}, true},
		{packet(4, 17, 1, 2, 3), nil, false}, {packet(1, 17), nil, false}, {packet(65535, 17), nil, false}, {packet(256, 17, make([]byte, 255)...), nil, false}, {packet(256, 17, make([]byte, 256)...), make([]byte, 256), true},
		{packet(65535, 17, make([]byte, 65534)...), nil, false}, {packet(65535, 17, make([]byte, 65535)...), make([]byte, 65535), true}, {packet(65535, 17, make([]byte, 65600)...), make([]byte, 65535), true},
		// What follows counts for nothing.
		{packet(3, 0, 1, 2, 3), []byte{1, 2, 3}, true}, {packet(1, 44, 9, 9), []byte{9}, true},
	}
	for _, c := range cases {
		if got, ok := sixhead.Rest(c.b); !bytes.Equal(got, c.want) || ok != c.ok || !ok && got != nil {
			t.Errorf("Rest(%x and more) = %x, %v, not %x, %v", c.b[:40], got, ok, c.want, c.ok)
		}
	}
}

func TestRestOfEveryFew(t *testing.T) {
	rest := []byte{9, 8, 7, 6, 5, 4, 3, 2, 1, 0, 11, 12}
	for payload := range 20 {
		for n := range len(rest) + 1 {
			got, ok := sixhead.Rest(packet(payload, 17, rest[:n]...))
			if ok != (payload <= n) || ok && !bytes.Equal(got, rest[:payload]) || !ok && got != nil {
				t.Errorf("Rest of %d bytes, of which there are %d, = %x, %v", payload, n, got, ok)
			}
		}
	}
}

func TestRestOfNoHeader(t *testing.T) {
	for _, c := range broken() {
		if got, ok := sixhead.Rest(c.b); got != nil || ok {
			t.Errorf("Rest(%x) = %x, %v", c.b, got, ok)
		}
	}
}

// P12.3

func TestAll(t *testing.T) {
	data := make([]byte, 8)
	hop, many := append([]byte{60}, make([]byte, 7)...), bytes.Repeat(append([]byte{60}, make([]byte, 7)...), 9)
	// split is a fragment header with an offset, ahead of a protocol.
	split := func(offset, next int) []byte {
		return []byte{byte(next), 0, byte(offset >> 5), byte(offset << 3), 0, 0, 0, 0}
	}
	cases := []struct {
		b    []byte
		want []api.Defect
	}{
		{whole(17), nil}, {whole(17, data...), nil}, {whole(59), nil}, {whole(255, 1), nil}, {packet(3, 17, data...), nil}, {whole(44, split(0, 17)...), nil}, {whole(44, split(1, 0)...), nil},
		{packet(9, 17, data...), []api.Defect{api.DefCut}}, {packet(1, 0), []api.Defect{api.DefCut}}, {packet(65535, 17), []api.Defect{api.DefCut}},
		// With too few bytes nothing is told of those that are there.
		{packet(99, 60, many...), []api.Defect{api.DefCut}}, {packet(9, 44, append([]byte{44}, split(0, 17)[1:]...)...), []api.Defect{api.DefCut}},
		{whole(0), []api.Defect{api.DefExt}}, {whole(60, data[:7]...), []api.Defect{api.DefExt}}, {packet(7, 60, hop...), []api.Defect{api.DefExt}}, {packet(0, 43, hop...), []api.Defect{api.DefExt}},
		{whole(60, slices.Concat(data, split(0, 17))...), []api.Defect{api.DefHop}}, {whole(60, many...), []api.Defect{api.DefMany}}, {whole(44, slices.Concat(split(0, 44), split(0, 17))...), []api.Defect{api.DefTwice}},
		{whole(44, append(split(8191, 17), data...)...), []api.Defect{api.DefEnd}}, {whole(44, append(split(8191, 17), data[:7]...)...), nil},
		// Bytes behind the payload are ignored.
		{packet(15, 44, append(split(8191, 17), data...)...), nil}, {packet(0, 17, many...), nil},
		{whole(44, slices.Concat(split(0, 44), split(0, 0), data[:8], data[:3])...), []api.Defect{api.DefExt, api.DefHop, api.DefTwice}},
		{whole(60, slices.Concat([]byte{0, 0, 0, 0, 0, 0, 0, 0}, []byte{44, 0, 0, 0, 0, 0, 0, 0}, split(8191, 17), data)...), []api.Defect{api.DefHop, api.DefEnd}},
	}
	for _, c := range cases {
		if got := sixhead.All(c.b); !slices.Equal(got, c.want) {
			t.Errorf("All(%x) = %d, not %d", c.b, got, c.want)
		}
	}
}

func TestAllIsThatOfTheWalk(t *testing.T) {
	draw := rand.New(rand.NewSource(17))
	seen := map[api.Defect]bool{}
	for range 30000 {
		rest := make([]byte, draw.Intn(200))
		for i := range rest {
			rest[i] = []byte{0, 0, 0, 0, 1, 44, 60, 17}[draw.Intn(8)]
		}
		payload, next := draw.Intn(len(rest)+4), []int{0, 43, 44, 60, draw.Intn(256)}[draw.Intn(5)]
		want := []api.Defect{api.DefCut}
		if payload <= len(rest) {
			_, want = extwalk.Go(next, rest[:payload])
		}
		for _, d := range want {
			seen[d] = true
		}
		if got := sixhead.All(packet(payload, next, rest...)); !slices.Equal(got, want) {
			t.Fatalf("All of %d bytes of %d in %x = %d, not %d", payload, next, rest, got, want)
		}
	}
	for _, d := range []api.Defect{api.DefCut, api.DefExt, api.DefHop, api.DefMany, api.DefTwice} {
		if !seen[d] {
			t.Errorf("defect %d was not drawn", d)
		}
	}
}

func TestAllOfNoHeader(t *testing.T) {
	for _, c := range broken() {
		if got := sixhead.All(c.b); !slices.Equal(got, []api.Defect{c.d}) {
			t.Errorf("All(%x) = %d, not %d", c.b, got, c.d)
		}
	}
}

// P12.4

// numbers are the numbers of a header with the greatest that each may be.
func numbers(s *api.Six) []struct {
	n    *int
	high int
} {
	return []struct {
		n    *int
		high int
	}{
		{&s.Class, 255}, {&s.Flow, 1048575}, {&s.Payload, 65535}, {&s.Next, 255}, {&s.Hop, 255},
	}
}

func TestWrite(t *testing.T) {
	if got, e := sixhead.Write(exact(plain())); !bytes.Equal(got, plain()) || e != api.OK {
		t.Errorf("Write = %x, %d", got, e)
	}
	if got, e := sixhead.Write(api.Six{}); !bytes.Equal(got, append([]byte{0x60}, make([]byte, 39)...)) || e != api.OK {
		t.Errorf("Write of nothing = %x, %d", got, e)
	}
	got, e := sixhead.Write(api.Six{Class: 0xb8, Flow: 0x12345})
	if !bytes.Equal(got, append([]byte{0x6b, 0x81, 0x23, 0x45}, make([]byte, 36)...)) || e != api.OK {
		t.Errorf("Write of class and flow = %x, %d", got, e)
	}
}

func TestWriteOfEveryNumber(t *testing.T) {
	for i, x := range numbers(&api.Six{}) {
		for n := 1; n <= x.high; n = 2*n + 1 {
			for _, value := range []int{n, n/2 + 1} {
				var s api.Six
				*numbers(&s)[i].n = value
				b, e := sixhead.Write(s)
				if e != api.OK || len(b) != 40 || b[0]>>4 != 6 || exact(b) != s {
					t.Errorf("Write(%v) = %x, %d", s, b, e)
				}
			}
		}
	}
}

func TestWriteOutOfRange(t *testing.T) {
	for i, x := range numbers(&api.Six{}) {
		for _, n := range []int{-1, -2, -x.high, -x.high - 1, x.high + 1, x.high + 2, 2*x.high + 2, 1 << 32, 1<<32 + 5, math.MaxInt, math.MinInt, math.MinInt + 5} {
			for _, s := range []api.Six{{}, {Class: 255, Flow: 1048575, Payload: 65535, Next: 255, Hop: 255, Src: [16]byte{1}, Dst: [16]byte{2}}} {
				*numbers(&s)[i].n = n
				if got, e := sixhead.Write(s); got != nil || e != api.ErrRange {
					t.Errorf("Write(%v) = %x, %d", s, got, e)
				}
			}
		}
	}
}

// P12.5

func TestReadOfWrite(t *testing.T) {
	draw := rand.New(rand.NewSource(37))
	for range 5000 {
		var s api.Six
		for _, x := range numbers(&s) {
			*x.n = draw.Intn(x.high + 1)
		}
		draw.Read(s.Src[:])
		draw.Read(s.Dst[:])
		b, e := sixhead.Write(s)
		if len(b) != 40 || e != api.OK {
			t.Fatalf("Write(%v) = %x, %d", s, b, e)
		}
		if got, d := sixhead.Read(b); got != s || d != api.Sound {
			t.Fatalf("Read(%x) = %v, %d, not %v", b, got, d, s)
		}
	}
}

func TestWriteOfRead(t *testing.T) {
	for _, b := range drawn(41, 2000) {
		s, _ := sixhead.Read(b)
		if got, e := sixhead.Write(s); !bytes.Equal(got, b[:40]) || e != api.OK {
			t.Fatalf("Write(%v) = %x, %d, not %x", s, got, e, b[:40])
		}
	}
}

func TestBytesBehindThePayloadAreIgnored(t *testing.T) {
	split := []byte{17, 0, 0xff, 0xf8, 0, 0, 0, 0, 1, 2, 3, 4, 5, 6, 7}
	for _, b := range [][]byte{whole(17), whole(17, 1, 2, 3), whole(0), whole(60, 17, 0, 0, 0, 0, 0, 0, 0), whole(60, 17, 1, 0, 0, 0, 0, 0, 0), whole(44, split...)} {
		s, d := sixhead.Read(b)
		rest, ok := sixhead.Rest(b)
		all := sixhead.All(b)
		for _, n := range []int{1, 7, 8, 40, 70000} {
			long := append(bytes.Clone(b), bytes.Repeat([]byte{60}, n)...)
			s2, d2 := sixhead.Read(long)
			rest2, ok2 := sixhead.Rest(long)
			if all2 := sixhead.All(long); s2 != s || d2 != d || !bytes.Equal(rest2, rest) || ok2 != ok || !slices.Equal(all2, all) {
				t.Errorf("with %d bytes behind %x: %v, %d, %x, %v, %d", n, b, s2, d2, rest2, ok2, all2)
			}
		}
	}
}

// P3 of the general rules

func TestArgumentsStay(t *testing.T) {
	b := whole(60, 17, 1, 2, 3, 4, 5, 6, 7, 8, 9, 10, 11, 12, 13, 14, 15, 99)
	kept := bytes.Clone(b)
	for n := range len(b) + 1 {
		sixhead.Read(b[:n])
		sixhead.Rest(b[:n])
		sixhead.All(b[:n])
		if !bytes.Equal(b, kept) {
			t.Fatalf("the argument became %x", b)
		}
	}
}

// spoil changes all that a slice has room for.
func spoil(b []byte) {
	b = b[:cap(b)]
	for i := range b {
		b[i] ^= 0xff
	}
}

func TestResultsAreNewMemory(t *testing.T) {
	b := whole(60, 0, 1, 2, 3)
	kept, s := bytes.Clone(b), exact(b)
	rest, _ := sixhead.Rest(b)
	spoil(rest)
	wrote, _ := sixhead.Write(s)
	spoil(wrote)
	for _, c := range [][]byte{b, nil, packet(1, 17)} {
		for i, defects := 0, sixhead.All(c); i < len(defects); i++ {
			defects[i] = 99
		}
	}
	if !bytes.Equal(b, kept) {
		t.Errorf("a result shares memory with the argument: %x", b)
	}
	if again, ok := sixhead.Rest(b); !bytes.Equal(again, []byte{0, 1, 2, 3}) || !ok {
		t.Errorf("Rest = %x, %v", again, ok)
	}
	if again, _ := sixhead.Write(s); !bytes.Equal(again, kept[:40]) {
		t.Errorf("Write = %x, not %x", again, kept[:40])
	}
	if got := sixhead.All(b); !slices.Equal(got, []api.Defect{api.DefExt}) {
		t.Errorf("All = %d", got)
	}
	if got := sixhead.All(nil); !slices.Equal(got, []api.Defect{api.DefEmpty}) {
		t.Errorf("All of nothing = %d", got)
	}
}

func TestOnlyTheLengthCounts(t *testing.T) {
	b := whole(60, 17, 1, 2, 3, 4, 5, 6, 7, 8, 9, 10, 11, 12, 13, 14, 15, 99)
	told := func(b []byte) []any {
		s, d := sixhead.Read(b)
		rest, ok := sixhead.Rest(b)
		return []any{s, d, rest, ok, sixhead.All(b)}
	}
	for n := range b {
		if got, want := told(b[:n]), told(bytes.Clone(b[:n:n])); !reflect.DeepEqual(got, want) {
			t.Errorf("of %d bytes %v is told, not %v", n, got, want)
		}
	}
}

// P5 of the general rules: a call answers the same whatever was called ahead of it.
func TestNothingIsKept(t *testing.T) {
	for range 3 {
		if got, d := sixhead.Read(plain()); got != exact(plain()) || d != api.Sound {
			t.Errorf("Read = %v, %d", got, d)
		}
		if got, d := sixhead.Read(nil); got != (api.Six{}) || d != api.DefEmpty {
			t.Errorf("Read of nothing = %v, %d", got, d)
		}
		if got := sixhead.All(whole(0)); !slices.Equal(got, []api.Defect{api.DefExt}) {
			t.Errorf("All = %d", got)
		}
		if got := sixhead.All(whole(17, 1)); len(got) != 0 {
			t.Errorf("All = %d", got)
		}
		if got, e := sixhead.Write(api.Six{Hop: 256}); got != nil || e != api.ErrRange {
			t.Errorf("Write = %x, %d", got, e)
		}
		if got, e := sixhead.Write(api.Six{Hop: 255}); len(got) != 40 || e != api.OK {
			t.Errorf("Write = %x, %d", got, e)
		}
	}
}
