package octet_test

import (
	"bytes"
	"encoding/binary"
	"encoding/hex"
	"math"
	"testing"

	"weighbridge/api"
	"weighbridge/octet"
)

// sixteen holds bytes that are all unlike, high bits set and not.
func sixteen() []byte {
	return []byte{0x80, 0x01, 0xfe, 0x7f, 0x00, 0xff, 0x10, 0x0f, 0xa5, 0x5a, 0xc3, 0x3c, 0x99, 0x66, 0xf0, 0x02}
}

// roomy tells bytes behind whose length others stand in the same memory.
func roomy() (b, whole []byte) {
	whole = sixteen()
	return whole[:6], whole
}

// numbers are some with bits at all edges.
func numbers() []uint64 {
	l := []uint64{0, 1, 2, 0xb8, 0x0123456789abcdef, 0xfedcba9876543210, 0xaaaaaaaaaaaaaaaa, 0x5555555555555555, math.MaxUint64}
	for i := range 64 {
		l = append(l, 1<<i, 1<<i-1, ^uint64(1<<i))
	}
	return l
}

// badPlaces are places and widths that ErrRange refuses whatever the bytes are.
func badPlaces() [][2]int {
	return [][2]int{
		{0, 0}, {0, 9}, {0, 10}, {0, 64}, {0, -1}, {0, math.MinInt}, {0, math.MaxInt},
		{-1, 1}, {-1, 2}, {-8, 8}, {math.MinInt, 1}, {math.MinInt, 8}, {-1, 0}, {-1, 9},
		{100, 0}, {100, 9}, {math.MaxInt, 0}, {math.MaxInt, math.MaxInt}, {math.MinInt, math.MinInt},
	}
}

// shortPlaces are places and widths beyond the end of six bytes.
func shortPlaces() [][2]int {
	return [][2]int{
		{0, 7}, {0, 8}, {1, 6}, {2, 5}, {5, 2}, {6, 1}, {6, 8}, {7, 1}, {7, 8}, {15, 1},
		{math.MaxInt, 1}, {math.MaxInt, 8}, {math.MaxInt - 1, 2}, {math.MaxInt - 7, 8},
	}
}

// P1.1

func TestGetOfEveryWidthAndPlace(t *testing.T) {
	b := sixteen()
	for width := 1; width <= 8; width++ {
		for at := 0; at+width <= len(b); at++ {
			var eight [8]byte
			copy(eight[8-width:], b[at:at+width])
			want := binary.BigEndian.Uint64(eight[:])
			if n, e := octet.Get(b, at, width); n != want || e != api.OK {
				t.Errorf("Get(%d, %d) = %x, %v, not %x", at, width, n, e, want)
			}
		}
	}
}

func TestGetExample(t *testing.T) {
	if n, e := octet.Get([]byte{9, 1, 2, 9}, 1, 2); n != 258 || e != api.OK {
		t.Errorf("Get = %d, %v", n, e)
	}
	all := bytes.Repeat([]byte{255}, 8)
	if n, e := octet.Get(all, 0, 8); n != math.MaxUint64 || e != api.OK {
		t.Errorf("Get of eight bytes 255 = %d, %v", n, e)
	}
}

func TestGetOutOfRange(t *testing.T) {
	b, _ := roomy()
	for _, p := range badPlaces() {
		for _, given := range [][]byte{b, {}, nil} {
			if n, e := octet.Get(given, p[0], p[1]); n != 0 || e != api.ErrRange {
				t.Errorf("Get of %d bytes at %d, %d = %d, %v", len(given), p[0], p[1], n, e)
			}
		}
	}
}

func TestGetBeyondTheEnd(t *testing.T) {
	b, _ := roomy()
	for _, p := range shortPlaces() {
		for _, given := range [][]byte{b, {}, nil} {
			if n, e := octet.Get(given, p[0], p[1]); n != 0 || e != api.ErrShort {
				t.Errorf("Get of %d bytes at %d, %d = %d, %v", len(given), p[0], p[1], n, e)
			}
		}
	}
	if n, e := octet.Get(nil, 0, 1); n != 0 || e != api.ErrShort {
		t.Errorf("Get of nothing = %d, %v", n, e)
	}
}

// P1.2

func TestPutOfEveryWidthAndPlace(t *testing.T) {
	for width := 1; width <= 8; width++ {
		for at := 0; at+width <= 16; at++ {
			for _, n := range numbers() {
				if width < 8 {
					n &= 1<<(8*width) - 1
				}
				checkPut(t, at, width, n)
			}
		}
	}
}

func checkPut(t *testing.T, at, width int, n uint64) {
	t.Helper()
	want := sixteen()
	var eight [8]byte
	binary.BigEndian.PutUint64(eight[:], n)
	copy(want[at:at+width], eight[8-width:])
	b := sixteen()
	got, e := octet.Put(b, at, width, n)
	if e != api.OK || !bytes.Equal(got, want) {
		t.Fatalf("Put(%d, %d, %x) = %x, %v, not %x", at, width, n, got, e, want)
	}
	if !bytes.Equal(b, sixteen()) {
		t.Fatalf("Put(%d, %d, %x) changed its argument", at, width, n)
	}
}

func TestPutOutOfRange(t *testing.T) {
	b, _ := roomy()
	for _, p := range badPlaces() {
		for _, given := range [][]byte{b, {}, nil} {
			if got, e := octet.Put(given, p[0], p[1], 0); len(got) != 0 || e != api.ErrRange {
				t.Errorf("Put into %d bytes at %d, %d = %x, %v", len(given), p[0], p[1], got, e)
			}
		}
	}
}

func TestPutOfTooGreatANumber(t *testing.T) {
	b := sixteen()
	for width := 1; width <= 7; width++ {
		first := uint64(1) << (8 * width)
		if _, e := octet.Put(b, 3, width, first-1); e != api.OK {
			t.Errorf("width %d: %x is refused: %v", width, first-1, e)
		}
		for _, n := range []uint64{first, first + 1, 2 * first, 1 << 63, math.MaxUint64} {
			if got, e := octet.Put(b, 3, width, n); len(got) != 0 || e != api.ErrRange {
				t.Errorf("width %d: Put of %x = %x, %v", width, n, got, e)
			}
			if got, e := octet.Put(nil, 3, width, n); len(got) != 0 || e != api.ErrRange {
				t.Errorf("width %d: Put of %x into nothing = %x, %v", width, n, got, e)
			}
		}
	}
	if _, e := octet.Put(b, 8, 8, math.MaxUint64); e != api.OK {
		t.Errorf("eight bytes refuse the greatest number: %v", e)
	}
}

func TestPutBeyondTheEnd(t *testing.T) {
	b, whole := roomy()
	for _, p := range shortPlaces() {
		for _, given := range [][]byte{b, {}, nil} {
			if got, e := octet.Put(given, p[0], p[1], 1); len(got) != 0 || e != api.ErrShort {
				t.Errorf("Put into %d bytes at %d, %d = %x, %v", len(given), p[0], p[1], got, e)
			}
		}
	}
	if !bytes.Equal(whole, sixteen()) {
		t.Error("Put changed its argument")
	}
}

// P1.3

func TestCutOfEveryPiece(t *testing.T) {
	b := sixteen()
	for at := 0; at <= len(b); at++ {
		for n := 0; at+n <= len(b); n++ {
			got, e := octet.Cut(b, at, n)
			if e != api.OK || !bytes.Equal(got, sixteen()[at:at+n]) {
				t.Errorf("Cut(%d, %d) = %x, %v", at, n, got, e)
			}
		}
	}
	if got, e := octet.Cut(nil, 0, 0); len(got) != 0 || e != api.OK {
		t.Errorf("Cut of nothing = %x, %v", got, e)
	}
}

func TestCutErrors(t *testing.T) {
	b, _ := roomy()
	cases := []struct {
		b     []byte
		at, n int
		want  api.Errno
	}{
		{b, -1, 0, api.ErrRange}, {b, 0, -1, api.ErrRange}, {b, -1, -1, api.ErrRange},
		{b, -1, 100, api.ErrRange}, {b, 100, -1, api.ErrRange}, {b, 7, -1, api.ErrRange},
		{b, math.MinInt, 1, api.ErrRange}, {b, 1, math.MinInt, api.ErrRange},
		{b, -1, math.MaxInt, api.ErrRange}, {b, math.MaxInt, math.MinInt, api.ErrRange},
		{nil, -1, 0, api.ErrRange}, {nil, 0, -1, api.ErrRange},
		{b, 0, 7, api.ErrShort}, {b, 1, 6, api.ErrShort}, {b, 5, 2, api.ErrShort}, {b, 6, 1, api.ErrShort},
		{b, 7, 0, api.ErrShort}, {b, 16, 0, api.ErrShort}, {b, math.MaxInt, 0, api.ErrShort},
		{b, math.MaxInt, 1, api.ErrShort}, {b, 1, math.MaxInt, api.ErrShort}, {b, 0, math.MaxInt, api.ErrShort},
		{b, math.MaxInt, math.MaxInt, api.ErrShort},
		{nil, 1, 0, api.ErrShort}, {nil, 0, 1, api.ErrShort}, {[]byte{}, 1, 0, api.ErrShort},
	}
	for _, c := range cases {
		if got, e := octet.Cut(c.b, c.at, c.n); len(got) != 0 || e != c.want {
			t.Errorf("Cut of %d bytes at %d, %d = %x, %v, not %v", len(c.b), c.at, c.n, got, e, c.want)
		}
	}
}

// P1.4

// validBits tells whether the document accepts a range of bits.
func validBits(from, count int) bool {
	return 0 <= from && from <= 63 && 0 <= count && count <= 64-from
}

// bitPlaces are first bits and counts: all about the valid ones, and far ones.
func bitPlaces() []int {
	l := []int{math.MinInt, math.MinInt + 1, -64, math.MaxInt - 63, math.MaxInt - 1, math.MaxInt, 128, 1 << 32}
	for i := -3; i <= 67; i++ {
		l = append(l, i)
	}
	return l
}

func TestBitsOneByOne(t *testing.T) {
	for _, from := range bitPlaces() {
		for _, count := range bitPlaces() {
			for _, n := range []uint64{0, 0xb8, 0x8123456789abcdef, math.MaxUint64} {
				var want uint64
				if validBits(from, count) {
					for i := range count {
						want += n >> (from + i) & 1 << i
					}
				}
				if got := octet.Bits(n, from, count); got != want {
					t.Errorf("Bits(%x, %d, %d) = %x, not %x", n, from, count, got, want)
				}
			}
		}
	}
	if octet.Bits(0xb8, 2, 6) != 46 {
		t.Error("the bits of the example")
	}
}

func TestSetBitsOneByOne(t *testing.T) {
	for _, from := range bitPlaces() {
		for _, count := range bitPlaces() {
			for _, n := range []uint64{0, 0x8123456789abcdef, math.MaxUint64} {
				for _, x := range []uint64{0, 1, 0xfedcba9876543211, math.MaxUint64} {
					want := n
					if validBits(from, count) {
						for i := range count {
							want = want&^(1<<(from+i)) | x>>i&1<<(from+i)
						}
					}
					if got := octet.SetBits(n, from, count, x); got != want {
						t.Errorf("SetBits(%x, %d, %d, %x) = %x, not %x", n, from, count, x, got, want)
					}
				}
			}
		}
	}
}

// P1.5

func TestHex(t *testing.T) {
	cases := []struct {
		b    []byte
		want string
	}{
		{nil, ""}, {[]byte{}, ""}, {[]byte{0}, "00"}, {[]byte{1}, "01"}, {[]byte{0x10}, "10"}, {[]byte{255}, "ff"},
		{[]byte{0, 159}, "009f"}, {[]byte{0x01, 0x23, 0x45, 0x67, 0x89, 0xab, 0xcd, 0xef}, "0123456789abcdef"},
	}
	for _, c := range cases {
		if got := octet.Hex(c.b); got != c.want {
			t.Errorf("Hex(%v) = %q, not %q", c.b, got, c.want)
		}
	}
	for i := range 256 {
		if got := octet.Hex([]byte{byte(i)}); got != hex.EncodeToString([]byte{byte(i)}) {
			t.Errorf("Hex of %d = %q", i, got)
		}
	}
}

func TestUnhex(t *testing.T) {
	for _, s := range []string{"", "00", "0f", "f0", "ff", "009f", "0123456789abcdef", "deadbeef00"} {
		want, _ := hex.DecodeString(s)
		got, fault := octet.Unhex(s)
		if !bytes.Equal(got, want) || fault != (api.Fault{}) {
			t.Errorf("Unhex(%q) = %x, %v", s, got, fault)
		}
	}
}

func TestUnhexFaults(t *testing.T) {
	cases := []struct {
		s    string
		want api.Fault
	}{
		{"0aF", api.Fault{Errno: api.ErrForm, At: 2}},
		{"F", api.Fault{Errno: api.ErrForm, At: 0}},
		{"0g0G", api.Fault{Errno: api.ErrForm, At: 1}},
		{"00 00", api.Fault{Errno: api.ErrForm, At: 2}},
		{"0000\n", api.Fault{Errno: api.ErrForm, At: 4}},
		{"0x00", api.Fault{Errno: api.ErrForm, At: 1}},
		{"-1", api.Fault{Errno: api.ErrForm, At: 0}},
		{"abcdé", api.Fault{Errno: api.ErrForm, At: 4}},
		{"ab\x00\xff", api.Fault{Errno: api.ErrForm, At: 2}},
		{"\xff", api.Fault{Errno: api.ErrForm, At: 0}},
		{"a", api.Fault{Errno: api.ErrCut, At: 1}},
		{"abc", api.Fault{Errno: api.ErrCut, At: 3}},
		{"0123456", api.Fault{Errno: api.ErrCut, At: 7}},
	}
	for _, c := range cases {
		if got, fault := octet.Unhex(c.s); len(got) != 0 || fault != c.want {
			t.Errorf("Unhex(%q) = %x, %v, not %v", c.s, got, fault, c.want)
		}
	}
}

func TestUnhexOfEveryByte(t *testing.T) {
	for c := range 256 {
		for at := range 5 {
			s := []byte("09af0")
			s[at] = byte(c)
			digit := '0' <= c && c <= '9' || 'a' <= c && c <= 'f'
			want := api.Fault{Errno: api.ErrCut, At: 5}
			if !digit {
				want = api.Fault{Errno: api.ErrForm, At: at}
			}
			if got, fault := octet.Unhex(string(s)); len(got) != 0 || fault != want {
				t.Errorf("Unhex(%q) = %x, %v, not %v", s, got, fault, want)
			}
		}
	}
}

// P1.6

func TestGetReadsWhatPutWrote(t *testing.T) {
	for _, n := range numbers() {
		for width := 1; width <= 8; width++ {
			if width < 8 && n>>(8*width) != 0 {
				continue
			}
			b, e := octet.Put(sixteen(), 5, width, n)
			got, f := octet.Get(b, 5, width)
			if got != n || e != api.OK || f != api.OK {
				t.Errorf("width %d: %x was put, %x is got", width, n, got)
			}
		}
	}
}

func TestBitsReadWhatSetBitsWrote(t *testing.T) {
	for from := range 64 {
		for count := 0; count <= 64-from; count++ {
			for _, x := range []uint64{0, 0x9e3779b97f4a7c15, math.MaxUint64} {
				const n = 0x0123456789abcdef
				put := octet.SetBits(n, from, count, x)
				if octet.Bits(put, from, count) != octet.Bits(x, 0, count) {
					t.Fatalf("bits %d, %d of %x are not those of %x", from, count, put, x)
				}
				if octet.Bits(put, 0, from) != octet.Bits(n, 0, from) || octet.Bits(put, from+count, 64-from-count) != octet.Bits(n, from+count, 64-from-count) {
					t.Fatalf("SetBits(%d, %d, %x) changed other bits", from, count, x)
				}
			}
		}
	}
}

func TestUnhexOfHex(t *testing.T) {
	for i := range 256 {
		b := []byte{byte(i), byte(255 - i), byte(i * 7)}
		got, fault := octet.Unhex(octet.Hex(b))
		if !bytes.Equal(got, b) || fault != (api.Fault{}) {
			t.Errorf("Unhex of Hex(%x) = %x, %v", b, got, fault)
		}
		if s := octet.Hex(got); s != octet.Hex(b) {
			t.Errorf("Hex of Unhex: %q", s)
		}
	}
}

// P3 of the general rules: arguments stay as they are, results share nothing.

func TestArgumentsStay(t *testing.T) {
	b, whole := roomy()
	octet.Get(b, 1, 4)
	octet.Put(b, 0, 6, 0x112233445566)
	octet.Put(b, 5, 2, 7)
	octet.Cut(b, 2, 4)
	octet.Hex(b)
	if !bytes.Equal(whole, sixteen()) {
		t.Errorf("the argument became %x", whole)
	}
}

func TestResultsAreNewMemory(t *testing.T) {
	makers := map[string]func(b []byte) []byte{
		"Put":   func(b []byte) []byte { l, _ := octet.Put(b, 1, 2, 500); return l },
		"Cut":   func(b []byte) []byte { l, _ := octet.Cut(b, 1, 4); return l },
		"whole": func(b []byte) []byte { l, _ := octet.Cut(b, 0, 6); return l },
		"none":  func(b []byte) []byte { l, _ := octet.Cut(b, 6, 0); return l },
		"Unhex": func([]byte) []byte { l, _ := octet.Unhex("0102030405"); return l },
	}
	for name, f := range makers {
		b, whole := roomy()
		first, second := f(b), f(b)
		kept := bytes.Clone(second)
		for i := range first[:cap(first)] {
			first[:cap(first)][i] ^= 255
		}
		if !bytes.Equal(whole, sixteen()) {
			t.Errorf("%s shares memory with its argument", name)
		}
		if !bytes.Equal(second, kept) || !bytes.Equal(f(b), kept) {
			t.Errorf("%s shares memory with an earlier result", name)
		}
	}
}

// P3: what stands behind the length of a slice is not read, and nil is as good as empty.
func TestOnlyTheLengthCounts(t *testing.T) {
	b, _ := roomy()
	exact := bytes.Clone(b)
	for at := -1; at <= 8; at++ {
		for n := -1; n <= 9; n++ {
			x, e := octet.Get(b, at, n)
			y, f := octet.Get(exact[:len(exact):len(exact)], at, n)
			if x != y || e != f {
				t.Errorf("Get(%d, %d) hangs on the capacity", at, n)
			}
			p, e := octet.Cut(b, at, n)
			q, f := octet.Cut(exact[:len(exact):len(exact)], at, n)
			if !bytes.Equal(p, q) || e != f {
				t.Errorf("Cut(%d, %d) hangs on the capacity", at, n)
			}
			if _, e = octet.Cut(nil, at, n); e != errnoOfCut([]byte{}, at, n) {
				t.Errorf("Cut(%d, %d) takes nil for something else than nothing", at, n)
			}
		}
	}
	if octet.Hex(b) != octet.Hex(exact) {
		t.Error("Hex hangs on the capacity")
	}
}

func errnoOfCut(b []byte, at, n int) api.Errno {
	_, e := octet.Cut(b, at, n)
	return e
}

// P5: a call answers the same whatever was called ahead of it.
func TestNothingIsKept(t *testing.T) {
	for range 3 {
		if n, e := octet.Get([]byte{1, 2}, 0, 2); n != 258 || e != api.OK {
			t.Errorf("Get = %d, %v", n, e)
		}
		if _, fault := octet.Unhex("0aF"); fault != (api.Fault{Errno: api.ErrForm, At: 2}) {
			t.Errorf("Unhex: %v", fault)
		}
		if b, fault := octet.Unhex("0a"); !bytes.Equal(b, []byte{10}) || fault != (api.Fault{}) {
			t.Errorf("Unhex = %x, %v", b, fault)
		}
		if _, e := octet.Get(nil, 0, 2); e != api.ErrShort {
			t.Errorf("Get of nothing: %v", e)
		}
		if b, e := octet.Put([]byte{0, 0}, 1, 1, 9); !bytes.Equal(b, []byte{0, 9}) || e != api.OK {
			t.Errorf("Put = %x, %v", b, e)
		}
	}
}
