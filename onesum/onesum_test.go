package onesum_test

import (
	"bytes"
	"encoding/binary"
	"math"
	"math/rand"
	"testing"

	"weighbridge/api"
	"weighbridge/onesum"
)

// header is the document's third example, its checksum not yet in it.
func header() []byte {
	return []byte{0x45, 0, 0, 0x73, 0, 0, 0x40, 0, 0x40, 0x11, 0, 0, 0xc0, 0xa8, 0, 0x01, 0xc0, 0xa8, 0, 0xc7}
}

// edges are words with bits at all edges.
func edges() []uint16 {
	l := []uint16{0, 1, 2, 0x00ff, 0x0100, 0x1234, 0x5555, 0x7fff, 0x8000, 0x8001, 0xaaaa, 0xff00, 0xfffd, 0xfffe, 0xffff}
	for i := range 16 {
		l = append(l, 1<<i, ^uint16(1<<i))
	}
	return l
}

// bytesOf tells words as bytes.
func bytesOf(words ...uint16) []byte {
	var b []byte
	for _, w := range words {
		b = binary.BigEndian.AppendUint16(b, w)
	}
	return b
}

// exactSum tells the sum of bytes by a rest: FFFF and 0 are alike there, and 0 is the sum of nothing but zeros.
func exactSum(b []byte) uint16 {
	var total uint64
	for i, x := range b {
		if i%2 == 0 {
			total += uint64(x) * 256
		} else {
			total += uint64(x)
		}
	}
	if total == 0 {
		return 0
	}
	if rest := total % 65535; rest != 0 {
		return uint16(rest)
	}
	return 65535
}

// samples are byte slices of many lengths, the same ones in each run.
func samples() [][]byte {
	l := [][]byte{
		nil, {}, {0}, {1}, {255}, {0, 0}, {0, 1}, {1, 0}, {255, 255}, {255, 254}, {0, 0, 0}, {255, 255, 0}, {255, 255, 1},
		{0, 0, 255, 255}, {255, 255, 255, 255}, {255, 254, 0, 1}, {255, 254, 0, 2}, {128, 0, 128, 0}, {128, 0, 127, 255}, header(),
		make([]byte, 64), make([]byte, 65), bytes.Repeat([]byte{255}, 64), bytes.Repeat([]byte{255}, 65),
	}
	draw := rand.New(rand.NewSource(3))
	for n := range 70 {
		for range 3 {
			b := make([]byte, n)
			draw.Read(b)
			l = append(l, b)
		}
	}
	return l
}

// P3.1

func TestAdd(t *testing.T) {
	for _, a := range edges() {
		for b := range 65536 {
			want := int(a) + b
			if want > 65535 {
				want -= 65535
			}
			if got := onesum.Add(a, uint16(b)); int(got) != want {
				t.Fatalf("Add(%x, %x) = %x, not %x", a, b, got, want)
			}
			if got := onesum.Add(uint16(b), a); int(got) != want {
				t.Fatalf("Add(%x, %x) = %x, not %x", b, a, got, want)
			}
		}
	}
}

func TestAddAtTheEnd(t *testing.T) {
	cases := [][3]uint16{
		{0, 0, 0}, {0, 0xffff, 0xffff}, {0xffff, 0, 0xffff}, {0xffff, 1, 1}, {1, 0xffff, 1}, {0xfffe, 1, 0xffff},
		{0xfffe, 2, 1}, {0xffff, 0xffff, 0xffff}, {0x8000, 0x8000, 1}, {0x8000, 0x7fff, 0xffff}, {0x1234, 0x4321, 0x5555},
	}
	for _, c := range cases {
		if got := onesum.Add(c[0], c[1]); got != c[2] {
			t.Errorf("Add(%x, %x) = %x, not %x", c[0], c[1], got, c[2])
		}
	}
}

// P3.2

func TestSum(t *testing.T) {
	cases := []struct {
		b    []byte
		want uint16
	}{
		{nil, 0}, {[]byte{}, 0}, {[]byte{0}, 0}, {[]byte{0, 0, 0}, 0}, {[]byte{1}, 0x0100}, {[]byte{0, 1}, 1},
		{[]byte{0x12, 0x34}, 0x1234}, {[]byte{0x12, 0x34, 0x56}, 0x6834}, {[]byte{0xff, 0xff}, 0xffff},
		{[]byte{0xff, 0xff, 0xff, 0xff}, 0xffff}, {[]byte{0xff, 0xff, 0, 0}, 0xffff}, {[]byte{0xff, 0xff, 0, 1}, 1},
		{[]byte{0xff, 0, 1}, 1}, {[]byte{0x80, 0, 0x80}, 1}, {header(), 0x479e},
	}
	for _, c := range cases {
		if got := onesum.Sum(c.b); got != c.want {
			t.Errorf("Sum(%x) = %x, not %x", c.b, got, c.want)
		}
	}
}

func TestSumOfSamples(t *testing.T) {
	for _, b := range samples() {
		if got, want := onesum.Sum(b), exactSum(b); got != want {
			t.Errorf("Sum(%x) = %x, not %x", b, got, want)
		}
		if nothing := len(bytes.Trim(b, "\x00")) == 0; (onesum.Sum(b) == 0) != nothing {
			t.Errorf("Sum(%x) = %x", b, onesum.Sum(b))
		}
	}
}

func TestSumOfMuch(t *testing.T) {
	for _, n := range []int{api.MaxSize, api.MaxSize + 1, 1 << 20} {
		b := bytes.Repeat([]byte{0xfe, 0x03, 0xff}, n)[:n]
		if got, want := onesum.Sum(b), exactSum(b); got != want {
			t.Errorf("Sum of %d bytes = %x, not %x", n, got, want)
		}
	}
}

// P3.3

func TestCheckAndGood(t *testing.T) {
	for _, b := range samples() {
		sum := exactSum(b)
		if got := onesum.Check(b); got != 65535-sum {
			t.Errorf("Check(%x) = %x, not %x", b, got, 65535-sum)
		}
		if got := onesum.Good(b); got != (sum == 65535) {
			t.Errorf("Good(%x) = %v", b, got)
		}
	}
}

func TestCheckOfSingleWords(t *testing.T) {
	for w := range 65536 {
		b := bytesOf(uint16(w))
		if got := onesum.Check(b); int(got) != 65535-w {
			t.Fatalf("Check(%x) = %x", w, got)
		}
		if got := onesum.Good(b); got != (w == 65535) {
			t.Fatalf("Good(%x) = %v", w, got)
		}
	}
}

func TestGood(t *testing.T) {
	for _, b := range [][]byte{nil, {}, {0}, {0, 0}, {255}, {255, 254}, {0xff, 0xff, 0x01}, header()} {
		if onesum.Good(b) {
			t.Errorf("%x is good", b)
		}
	}
	for _, b := range [][]byte{{255, 255}, {255, 255, 0}, {0, 255, 255}, {0xfe, 0xff, 1}, {0, 1, 255, 254}, {255, 255, 255, 255}} {
		if !onesum.Good(b) {
			t.Errorf("%x is not good", b)
		}
	}
}

// P3.4

func TestSwap(t *testing.T) {
	for w := range 65536 {
		if got, want := int(onesum.Swap(uint16(w))), w%256*256+w/256; got != want {
			t.Fatalf("Swap(%x) = %x, not %x", w, got, want)
		}
	}
}

func TestJoin(t *testing.T) {
	even := []int{0, 2, 4, 20, 65574, math.MaxInt - 1, -2, -4, math.MinInt}
	odd := []int{1, 3, 5, 21, api.MaxSize, math.MaxInt, -1, -3, math.MinInt + 1}
	for _, a := range edges() {
		for _, b := range edges() {
			for _, n := range even {
				if got, want := onesum.Join(a, n, b), exactSum(bytesOf(a, b)); got != want {
					t.Fatalf("Join(%x, %d, %x) = %x, not %x", a, n, b, got, want)
				}
			}
			for _, n := range odd {
				if got, want := onesum.Join(a, n, b), exactSum(bytesOf(a, b<<8|b>>8)); got != want {
					t.Fatalf("Join(%x, %d, %x) = %x, not %x", a, n, b, got, want)
				}
			}
		}
	}
}

// P3.5

func TestFillExample(t *testing.T) {
	want := header()
	want[10], want[11] = 0xb8, 0x61
	if got, e := onesum.Fill(header(), 10); !bytes.Equal(got, want) || e != api.OK {
		t.Errorf("Fill = %x, %v", got, e)
	}
	stale := header()
	stale[10], stale[11] = 0x12, 0x34
	if got, e := onesum.Fill(stale, 10); !bytes.Equal(got, want) || e != api.OK {
		t.Errorf("Fill over another checksum = %x, %v", got, e)
	}
	if got, e := onesum.Fill(want, 10); !bytes.Equal(got, want) || e != api.OK {
		t.Errorf("Fill over the right checksum = %x, %v", got, e)
	}
}

func TestFillOfNothingButZeros(t *testing.T) {
	for _, b := range [][]byte{{0, 0}, {0x12, 0x34}, {0xff, 0xff}} {
		if got, e := onesum.Fill(b, 0); !bytes.Equal(got, []byte{0xff, 0xff}) || e != api.OK {
			t.Errorf("Fill(%x) = %x, %v", b, got, e)
		}
	}
	if got, e := onesum.Fill([]byte{0xff, 0xff, 7, 7}, 2); !bytes.Equal(got, []byte{0xff, 0xff, 0, 0}) || e != api.OK {
		t.Errorf("Fill beside FFFF = %x, %v", got, e)
	}
}

func TestFillAtEveryPlace(t *testing.T) {
	for _, b := range samples() {
		for at := 0; at+2 <= len(b); at += 2 {
			want := bytes.Clone(b)
			want[at], want[at+1] = 0, 0
			binary.BigEndian.PutUint16(want[at:], 65535-exactSum(want))
			if got, e := onesum.Fill(b, at); !bytes.Equal(got, want) || e != api.OK {
				t.Errorf("Fill(%x, %d) = %x, %v, not %x", b, at, got, e, want)
			}
		}
	}
}

func TestFillErrors(t *testing.T) {
	six, seven := make([]byte, 6, 20), make([]byte, 7, 20)
	cases := []struct {
		b    []byte
		at   int
		want api.Errno
	}{
		{six, -1, api.ErrRange}, {six, -2, api.ErrRange}, {six, 1, api.ErrRange}, {six, 5, api.ErrRange},
		{six, 7, api.ErrRange}, {six, math.MaxInt, api.ErrRange}, {six, math.MinInt, api.ErrRange}, {six, math.MinInt + 1, api.ErrRange},
		{nil, -1, api.ErrRange}, {nil, -2, api.ErrRange}, {nil, 1, api.ErrRange}, {nil, math.MaxInt, api.ErrRange},
		{six, 6, api.ErrShort}, {six, 8, api.ErrShort}, {six, 100, api.ErrShort}, {six, math.MaxInt - 1, api.ErrShort},
		{seven, 6, api.ErrShort}, {seven, 8, api.ErrShort}, {seven, 5, api.ErrRange},
		{nil, 0, api.ErrShort}, {[]byte{}, 0, api.ErrShort}, {[]byte{1}, 0, api.ErrShort}, {nil, 2, api.ErrShort},
	}
	for _, c := range cases {
		if got, e := onesum.Fill(c.b, c.at); len(got) != 0 || e != c.want {
			t.Errorf("Fill of %d bytes at %d = %x, %v, not %v", len(c.b), c.at, got, e, c.want)
		}
	}
	if got, e := onesum.Fill(seven, 4); !bytes.Equal(got, []byte{0, 0, 0, 0, 255, 255, 0}) || e != api.OK {
		t.Errorf("Fill ahead of a last byte = %x, %v", got, e)
	}
}

// P3.6

func TestFilledBytesAreGood(t *testing.T) {
	for _, b := range samples() {
		for at := 0; at+2 <= len(b); at += 2 {
			if got, _ := onesum.Fill(b, at); !onesum.Good(got) {
				t.Errorf("Fill(%x, %d) = %x, and that is not good", b, at, got)
			}
		}
	}
}

// P3.7

func TestAnotherWordAnotherSum(t *testing.T) {
	alike := func(a, b uint16) bool { return a == b || a == 0 && b == 65535 || a == 65535 && b == 0 }
	for _, old := range edges() {
		for now := range 65536 {
			n := uint16(now)
			for _, other := range []uint16{1, 0x8000, 0xfffe, 0xffff} {
				same := onesum.Sum(bytesOf(other, old)) == onesum.Sum(bytesOf(other, n))
				if same != alike(old, n) {
					t.Fatalf("beside %x: %x for %x, and the sums' likeness is %v", other, n, old, same)
				}
			}
			if same := onesum.Sum(bytesOf(0, old)) == onesum.Sum(bytesOf(0, n)); same != (old == n) {
				t.Fatalf("beside 0: %x for %x, and the sums' likeness is %v", n, old, same)
			}
		}
	}
}

func TestOrderDoesNotMatter(t *testing.T) {
	draw := rand.New(rand.NewSource(7))
	for _, b := range samples() {
		words := bytes.Clone(b[:len(b)/2*2])
		draw.Shuffle(len(words)/2, func(i, j int) {
			for k := range 2 {
				words[2*i+k], words[2*j+k] = words[2*j+k], words[2*i+k]
			}
		})
		if x, y := onesum.Sum(b[:len(words)]), onesum.Sum(words); x != y {
			t.Errorf("%x for %x, %x for %x", x, b, y, words)
		}
	}
}

func TestSumIsTheJoinOfItsParts(t *testing.T) {
	for _, b := range samples() {
		for n := range len(b) + 1 {
			if got := onesum.Join(onesum.Sum(b[:n]), n, onesum.Sum(b[n:])); got != onesum.Sum(b) {
				t.Errorf("%x, apart at %d: %x, not %x", b, n, got, onesum.Sum(b))
			}
		}
	}
}

// P3 of the general rules: arguments stay as they are, results share nothing, and only what is within the length counts.

func TestArgumentsStay(t *testing.T) {
	whole := append(header(), 1, 2, 3, 4)
	kept := bytes.Clone(whole)
	b := whole[:len(header())]
	onesum.Sum(b[:19])
	onesum.Check(b)
	onesum.Good(b)
	for at := -2; at <= 24; at++ {
		onesum.Fill(b, at)
	}
	if !bytes.Equal(whole, kept) {
		t.Errorf("the argument became %x", whole)
	}
}

func TestResultsAreNewMemory(t *testing.T) {
	b := header()
	first, _ := onesum.Fill(b, 10)
	second, _ := onesum.Fill(b, 10)
	kept := bytes.Clone(second)
	for i := range first[:cap(first)] {
		first[:cap(first)][i] ^= 255
	}
	third, _ := onesum.Fill(b, 10)
	if !bytes.Equal(b, header()) || !bytes.Equal(second, kept) || !bytes.Equal(third, kept) {
		t.Error("Fill shares memory with its argument or an earlier result")
	}
}

func TestOnlyTheLengthCounts(t *testing.T) {
	for n := range 8 {
		whole := bytes.Repeat([]byte{0xa7}, 16)
		b, exact := whole[:n], bytes.Clone(whole[:n])
		exact = exact[:n:n]
		if onesum.Sum(b) != exactSum(exact) || onesum.Check(b) != onesum.Check(exact) || onesum.Good(b) != onesum.Good(exact) {
			t.Errorf("a sum of %d bytes hangs on the capacity", n)
		}
		for at := range 10 {
			x, e := onesum.Fill(b, at)
			y, f := onesum.Fill(exact, at)
			if !bytes.Equal(x, y) || e != f || e == api.OK && len(x) != n {
				t.Errorf("Fill of %d bytes at %d hangs on the capacity", n, at)
			}
		}
	}
}

// P5 of the general rules: a call answers the same whatever was called ahead of it.
func TestNothingIsKept(t *testing.T) {
	for range 3 {
		if got := onesum.Sum([]byte{1}); got != 0x0100 {
			t.Errorf("Sum = %x", got)
		}
		if got := onesum.Add(0xffff, 1); got != 1 {
			t.Errorf("Add = %x", got)
		}
		if got, e := onesum.Fill(header(), 10); len(got) != 20 || got[10] != 0xb8 || got[11] != 0x61 || e != api.OK {
			t.Errorf("Fill = %x, %v", got, e)
		}
		if got, e := onesum.Fill(nil, 0); len(got) != 0 || e != api.ErrShort {
			t.Errorf("Fill of nothing = %x, %v", got, e)
		}
	}
}
