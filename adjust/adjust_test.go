package adjust_test

import (
	"bytes"
	"encoding/binary"
	"math"
	"math/rand"
	"slices"
	"testing"

	"weighbridge/adjust"
	"weighbridge/api"
	"weighbridge/onesum"
)

// header is the third example of the chapter on sums, with its checksum in it.
func header() []byte {
	return []byte{0x45, 0, 0, 0x73, 0, 0, 0x40, 0, 0x40, 0x11, 0xb8, 0x61, 0xc0, 0xa8, 0, 0x01, 0xc0, 0xa8, 0, 0xc7}
}

// edges are words with bits at all edges.
func edges() []uint16 {
	l := []uint16{0, 1, 2, 0x00ff, 0x0100, 0x3285, 0x5555, 0x7fff, 0x8000, 0xaaaa, 0xdd2f, 0xff00, 0xfffd, 0xfffe, 0xffff}
	for i := range 16 {
		l = append(l, 1<<i, ^uint16(1<<i))
	}
	return l
}

// drawn tells so many words, the same ones in each run.
func drawn(draw *rand.Rand, n int) []uint16 {
	l := make([]uint16, n)
	for i := range l {
		l[i] = uint16(draw.Uint32())
	}
	return l
}

// exactSum tells the sum of numbers by a rest: FFFF and 0 are alike there, and 0 is the sum of nothing but zeros.
func exactSum(numbers ...uint16) uint16 {
	var total uint64
	for _, n := range numbers {
		total += uint64(n)
	}
	if total == 0 {
		return 0
	}
	return uint16((total-1)%65535 + 1)
}

// exactWord tells by the same rest what Word tells.
func exactWord(check, old, now uint16) uint16 {
	return ^exactSum(^check, ^old, now)
}

// samples are byte slices of many lengths, the same ones in each run.
func samples() [][]byte {
	l := [][]byte{header(), header()[:19], make([]byte, 4), make([]byte, 5), make([]byte, 12), bytes.Repeat([]byte{255}, 8), {0, 0, 255, 255, 0, 0}}
	draw := rand.New(rand.NewSource(4))
	for n := 4; n < 25; n++ {
		b := make([]byte, n)
		draw.Read(b)
		l = append(l, b)
	}
	return l
}

// P4.1

func TestClean(t *testing.T) {
	for w := range 65535 {
		if got := adjust.Clean(uint16(w)); int(got) != w {
			t.Fatalf("Clean(%x) = %x", w, got)
		}
	}
	if got := adjust.Clean(0xffff); got != 0 {
		t.Errorf("Clean(ffff) = %x", got)
	}
}

// P4.2

func TestWordExample(t *testing.T) {
	cases := [][4]uint16{
		{0xdd2f, 0x5555, 0x3285, 0}, {0, 0, 0, 0}, {0xffff, 0xffff, 0, 0xffff}, {0xffff, 0, 0, 0},
		{0, 0xffff, 0xffff, 0}, {0xffff, 0xffff, 0xffff, 0}, {0xffff, 0xffff, 1, 0xfffe}, {0xb861, 0x4500, 0x45b8, 0xb7a9},
	}
	for _, c := range cases {
		if got := adjust.Word(c[0], c[1], c[2]); got != c[3] {
			t.Errorf("Word(%x, %x, %x) = %x, not %x", c[0], c[1], c[2], got, c[3])
		}
	}
}

func TestWord(t *testing.T) {
	for _, check := range edges() {
		for _, old := range edges() {
			for _, now := range edges() {
				if got, want := adjust.Word(check, old, now), exactWord(check, old, now); got != want {
					t.Fatalf("Word(%x, %x, %x) = %x, not %x", check, old, now, got, want)
				}
			}
		}
	}
	draw := rand.New(rand.NewSource(5))
	for range 100000 {
		w := drawn(draw, 3)
		if got, want := adjust.Word(w[0], w[1], w[2]), exactWord(w[0], w[1], w[2]); got != want {
			t.Fatalf("Word(%x) = %x, not %x", w, got, want)
		}
	}
}

// P4.3

func TestWords(t *testing.T) {
	draw := rand.New(rand.NewSource(6))
	for n := range 20 {
		for _, check := range edges() {
			old, now := drawn(draw, n), drawn(draw, n)
			want := check
			for i := range old {
				want = exactWord(want, old[i], now[i])
			}
			if got, e := adjust.Words(check, old, now); got != want || e != api.OK {
				t.Fatalf("Words(%x, %x, %x) = %x, %v, not %x", check, old, now, got, e, want)
			}
		}
	}
}

func TestWordsOfNone(t *testing.T) {
	for check := range 65536 {
		if got, e := adjust.Words(uint16(check), nil, []uint16{}); int(got) != check || e != api.OK {
			t.Fatalf("Words(%x) = %x, %v", check, got, e)
		}
	}
}

// An FFFF in between is cleaned neither there nor at the end.
func TestWordsCleanNothing(t *testing.T) {
	if got, e := adjust.Words(0xffff, []uint16{0xffff}, []uint16{0}); got != 0xffff || e != api.OK {
		t.Errorf("Words = %x, %v", got, e)
	}
	if got, e := adjust.Words(0xffff, []uint16{0xffff, 0xffff}, []uint16{0, 0}); got != 0xffff || e != api.OK {
		t.Errorf("Words = %x, %v", got, e)
	}
}

func TestWordsOfUnlikeLengths(t *testing.T) {
	one, two := []uint16{1}, []uint16{1, 2}
	cases := [][2][]uint16{{nil, one}, {one, nil}, {{}, one}, {one, {}}, {one, two}, {two, one}, {make([]uint16, 100), two}, {two, make([]uint16, 100)}}
	for _, c := range cases {
		for _, check := range edges() {
			if got, e := adjust.Words(check, c[0], c[1]); got != 0 || e != api.ErrShort {
				t.Errorf("Words(%x) of %d and %d = %x, %v", check, len(c[0]), len(c[1]), got, e)
			}
		}
	}
}

// P4.4

func TestAtExample(t *testing.T) {
	want := header()
	want[1], want[10], want[11] = 0xb8, 0xb7, 0xa9
	if got, e := adjust.At(header(), 10, 0, 0x45b8); !bytes.Equal(got, want) || e != api.OK {
		t.Errorf("At = %x, %v", got, e)
	}
}

func TestAtEveryPlace(t *testing.T) {
	for _, b := range samples() {
		for field := 0; field+2 <= len(b); field += 2 {
			for at := 0; at+2 <= len(b); at += 2 {
				if field != at {
					checkAt(t, b, field, at)
				}
			}
		}
	}
}

func checkAt(t *testing.T, b []byte, field, at int) {
	t.Helper()
	for _, w := range edges() {
		was := binary.BigEndian.Uint16(b[field:])
		check := exactWord(was, binary.BigEndian.Uint16(b[at:]), w)
		if check == 65535 {
			check = 0
		}
		want := bytes.Clone(b)
		binary.BigEndian.PutUint16(want[field:], check)
		binary.BigEndian.PutUint16(want[at:], w)
		if got, e := adjust.At(b, field, at, w); !bytes.Equal(got, want) || e != api.OK {
			t.Fatalf("At(%x, %d, %d, %x) = %x, %v, not %x", b, field, at, w, got, e, want)
		}
	}
}

// The checksum comes to FFFF, and 0 stands in its place, though At changes nothing but that.
func TestAtCleans(t *testing.T) {
	cases := []struct{ b, want []byte }{
		{[]byte{255, 255, 0, 0}, []byte{0, 0, 0, 0}},
		{[]byte{255, 255, 255, 255}, []byte{0, 0, 0, 0}},
		{[]byte{0xff, 0xfe, 0, 1}, []byte{0, 0, 0, 0}},
	}
	for _, c := range cases {
		if got, e := adjust.At(c.b, 0, 2, 0); !bytes.Equal(got, c.want) || e != api.OK {
			t.Errorf("At(%x) = %x, %v, not %x", c.b, got, e, c.want)
		}
	}
}

func TestAtOutOfRange(t *testing.T) {
	six := make([]byte, 6, 40)
	bad := []int{-1, -2, -3, 1, 3, 5, 7, 99, math.MinInt, math.MinInt + 1, math.MaxInt}
	good := []int{0, 2, 4, 6, 8, 100, math.MaxInt - 1}
	for _, b := range [][]byte{six, {1}, {}, nil} {
		for _, x := range bad {
			for _, y := range append(slices.Clone(bad), good...) {
				refuse(t, b, x, y, api.ErrRange)
				refuse(t, b, y, x, api.ErrRange)
			}
		}
		for _, x := range good {
			refuse(t, b, x, x, api.ErrRange)
		}
	}
}

func TestAtBeyondTheEnd(t *testing.T) {
	six, seven := make([]byte, 6, 40), make([]byte, 7, 40)
	for _, b := range [][]byte{six, seven} {
		for _, x := range []int{6, 8, 38, 100, math.MaxInt - 1} {
			for _, y := range []int{0, 2, 4, 10} {
				refuse(t, b, x, y, api.ErrShort)
				refuse(t, b, y, x, api.ErrShort)
			}
		}
	}
	for _, b := range [][]byte{nil, {}, {1}, {1, 2}, {1, 2, 3}} {
		refuse(t, b, 0, 2, api.ErrShort)
		refuse(t, b, 2, 0, api.ErrShort)
	}
	if got, e := adjust.At(six, 2, 4, 7); len(got) != 6 || e != api.OK {
		t.Errorf("At of the last word = %x, %v", got, e)
	}
	if got, e := adjust.At(six, 4, 2, 7); len(got) != 6 || e != api.OK {
		t.Errorf("At with the last word as checksum = %x, %v", got, e)
	}
}

func refuse(t *testing.T, b []byte, field, at int, want api.Errno) {
	t.Helper()
	if got, e := adjust.At(b, field, at, 0x1234); len(got) != 0 || e != want {
		t.Errorf("At of %d bytes at %d and %d = %x, %v, not %v", len(b), field, at, got, e, want)
	}
}

// P4.5

func TestAtIsFillOfTheOtherBytes(t *testing.T) {
	for _, b := range samples() {
		for field := 0; field+2 <= len(b); field += 2 {
			good, _ := onesum.Fill(b, field)
			for at := 0; at+2 <= len(b); at += 2 {
				if field != at {
					checkFill(t, good, field, at)
				}
			}
		}
	}
}

func checkFill(t *testing.T, good []byte, field, at int) {
	t.Helper()
	for _, w := range edges() {
		other := bytes.Clone(good)
		binary.BigEndian.PutUint16(other[at:], w)
		blank := bytes.Clone(other)
		blank[field], blank[field+1] = 0, 0
		if bytes.Equal(blank, make([]byte, len(blank))) {
			continue
		}
		want, _ := onesum.Fill(other, field)
		if got, e := adjust.At(good, field, at, w); !bytes.Equal(got, want) || e != api.OK {
			t.Fatalf("At(%x, %d, %d, %x) = %x, %v, not %x", good, field, at, w, got, e, want)
		}
	}
}

// Where nothing but zeros is left beside the checksum, the two differ: Fill writes FFFF there.
func TestAtOfNothingButZeros(t *testing.T) {
	good, _ := onesum.Fill([]byte{0, 0, 0x12, 0x34, 0}, 0)
	if got, e := adjust.At(good, 0, 2, 0); !bytes.Equal(got, make([]byte, 5)) || e != api.OK {
		t.Errorf("At = %x, %v", got, e)
	}
}

// P4.6

func TestAWordIsRestored(t *testing.T) {
	for _, check := range edges() {
		for _, old := range edges() {
			for _, now := range edges() {
				back := adjust.Word(adjust.Word(check, old, now), now, old)
				if adjust.Clean(back) != adjust.Clean(check) {
					t.Fatalf("%x, %x for %x and back: %x", check, now, old, back)
				}
			}
		}
	}
	for _, b := range samples() {
		for _, w := range edges() {
			there, _ := adjust.At(b, 2, 0, w)
			back, _ := adjust.At(there, 2, 0, binary.BigEndian.Uint16(b))
			want := bytes.Clone(b)
			binary.BigEndian.PutUint16(want[2:], adjust.Clean(binary.BigEndian.Uint16(b[2:])))
			if !bytes.Equal(back, want) {
				t.Fatalf("%x, with %x and back: %x", b, w, back)
			}
		}
	}
}

func TestOrderDoesNotMatter(t *testing.T) {
	draw := rand.New(rand.NewSource(8))
	for n := range 12 {
		for _, check := range edges() {
			old, now := drawn(draw, n), drawn(draw, n)
			x, _ := adjust.Words(check, old, now)
			draw.Shuffle(n, func(i, j int) {
				old[i], old[j] = old[j], old[i]
				now[i], now[j] = now[j], now[i]
			})
			y, _ := adjust.Words(check, old, now)
			if adjust.Clean(x) != adjust.Clean(y) {
				t.Fatalf("%x with %x for %x: %x, and %x", check, now, old, x, y)
			}
		}
	}
}

func TestOrderOfPlacesDoesNotMatter(t *testing.T) {
	for _, b := range samples() {
		if len(b) < 6 {
			continue
		}
		for _, v := range edges() {
			for _, w := range edges() {
				x, _ := adjust.At(b, 0, 2, v)
				x, _ = adjust.At(x, 0, 4, w)
				y, _ := adjust.At(b, 0, 4, w)
				y, _ = adjust.At(y, 0, 2, v)
				if !bytes.Equal(x, y) {
					t.Fatalf("%x with %x and %x: %x, and %x", b, v, w, x, y)
				}
			}
		}
	}
}

// P3 of the general rules: arguments stay as they are, results share nothing, and only what is within the length counts.

func TestArgumentsStay(t *testing.T) {
	whole := append(header(), 1, 2, 3, 4)
	kept := bytes.Clone(whole)
	for field := -2; field <= 24; field++ {
		for at := -2; at <= 24; at++ {
			adjust.At(whole[:20], field, at, 0xface)
		}
	}
	if !bytes.Equal(whole, kept) {
		t.Errorf("the argument became %x", whole)
	}
	old, now := []uint16{1, 2, 3, 4}, []uint16{5, 6, 7, 8}
	adjust.Words(9, old[:3], now[:3])
	adjust.Words(9, old[:3], now[:2])
	if !slices.Equal(old, []uint16{1, 2, 3, 4}) || !slices.Equal(now, []uint16{5, 6, 7, 8}) {
		t.Errorf("the arguments became %v and %v", old, now)
	}
}

func TestResultsAreNewMemory(t *testing.T) {
	b := header()
	first, _ := adjust.At(b, 10, 0, 0x45b8)
	second, _ := adjust.At(b, 10, 0, 0x45b8)
	kept := bytes.Clone(second)
	for i := range first[:cap(first)] {
		first[:cap(first)][i] ^= 255
	}
	third, _ := adjust.At(b, 10, 0, 0x45b8)
	if !bytes.Equal(b, header()) || !bytes.Equal(second, kept) || !bytes.Equal(third, kept) {
		t.Error("At shares memory with its argument or an earlier result")
	}
}

func TestOnlyTheLengthCounts(t *testing.T) {
	for n := range 8 {
		whole := bytes.Repeat([]byte{0xa7}, 16)
		b, exact := whole[:n], bytes.Clone(whole[:n])
		exact = exact[:n:n]
		for field := range 10 {
			for at := range 10 {
				x, e := adjust.At(b, field, at, 0x5c5c)
				y, f := adjust.At(exact, field, at, 0x5c5c)
				if !bytes.Equal(x, y) || e != f || e == api.OK && len(x) != n {
					t.Errorf("At of %d bytes at %d and %d hangs on the capacity", n, field, at)
				}
			}
		}
	}
}

// P5 of the general rules: a call answers the same whatever was called ahead of it.
func TestNothingIsKept(t *testing.T) {
	for range 3 {
		if got := adjust.Word(0xdd2f, 0x5555, 0x3285); got != 0 {
			t.Errorf("Word = %x", got)
		}
		if got, e := adjust.Words(0xb861, []uint16{0x4500}, []uint16{0x45b8}); got != 0xb7a9 || e != api.OK {
			t.Errorf("Words = %x, %v", got, e)
		}
		if got, e := adjust.Words(1, nil, []uint16{1}); got != 0 || e != api.ErrShort {
			t.Errorf("Words of unlike lengths = %x, %v", got, e)
		}
		if got, e := adjust.At(header(), 10, 0, 0x45b8); len(got) != 20 || got[10] != 0xb7 || got[11] != 0xa9 || e != api.OK {
			t.Errorf("At = %x, %v", got, e)
		}
		if got, e := adjust.At(nil, 0, 2, 1); len(got) != 0 || e != api.ErrShort {
			t.Errorf("At of nothing = %x, %v", got, e)
		}
	}
}
