package wide_test

import (
	"math"
	"math/big"
	"testing"

	"weighbridge/api"
	"weighbridge/wide"
)

// words are some with bits at all edges.
func words() []uint64 {
	return []uint64{
		0, 1, 2, 3, 7, 9, 10, 11, 99, 255, 256, 1000000000,
		1<<31 - 1, 1 << 31, 1<<32 - 1, 1 << 32, 1<<32 + 1, 1<<33 - 1,
		0xffffffff00000000, 0xffffffff00000001, 0x00000001fffffffe, 0x0123456789abcdef, 0xfedcba9876543210,
		9999999999999999999, 10000000000000000000, 10000000000000000001,
		1<<63 - 1, 1 << 63, 1<<63 + 1, math.MaxUint64 - 1, math.MaxUint64,
	}
}

// wides are all pairs of words.
func wides() []api.Wide {
	var l []api.Wide
	for _, hi := range words() {
		for _, lo := range words() {
			l = append(l, api.Wide{Hi: hi, Lo: lo})
		}
	}
	return l
}

// greatest is the greatest number.
func greatest() api.Wide {
	return api.Wide{Hi: math.MaxUint64, Lo: math.MaxUint64}
}

// bigOf tells a number as one of the library's.
func bigOf(a api.Wide) *big.Int {
	n := new(big.Int).SetUint64(a.Hi)
	return n.Lsh(n, 64).Add(n, new(big.Int).SetUint64(a.Lo))
}

// wideOf tells one of the library's numbers modulo 2^128.
func wideOf(n *big.Int) api.Wide {
	full := new(big.Int).Lsh(big.NewInt(1), 128)
	n = new(big.Int).Mod(n, full)
	word := new(big.Int).Lsh(big.NewInt(1), 64)
	hi, lo := new(big.Int).DivMod(n, word, new(big.Int))
	return api.Wide{Hi: hi.Uint64(), Lo: lo.Uint64()}
}

// P2.1

func TestOf(t *testing.T) {
	for _, n := range words() {
		if got := wide.Of(n); got != (api.Wide{Lo: n}) {
			t.Errorf("Of(%d) = %v", n, got)
		}
	}
}

func TestLess(t *testing.T) {
	for _, a := range wides() {
		for _, b := range wides() {
			if got, want := wide.Less(a, b), bigOf(a).Cmp(bigOf(b)) < 0; got != want {
				t.Fatalf("Less(%v, %v) = %v", a, b, got)
			}
		}
	}
}

// P2.2

func TestAdd(t *testing.T) {
	for _, a := range wides() {
		for _, b := range wides() {
			exact := new(big.Int).Add(bigOf(a), bigOf(b))
			got, over := wide.Add(a, b)
			if got != wideOf(exact) || over != (exact.BitLen() > 128) {
				t.Fatalf("Add(%v, %v) = %v, %v", a, b, got, over)
			}
		}
	}
}

func TestAddAtTheEnd(t *testing.T) {
	if got, over := wide.Add(greatest(), wide.Of(0)); got != greatest() || over {
		t.Errorf("the greatest number and 0: %v, %v", got, over)
	}
	if got, over := wide.Add(greatest(), wide.Of(1)); got != wide.Of(0) || !over {
		t.Errorf("the greatest number and 1: %v, %v", got, over)
	}
	if got, over := wide.Add(wide.Of(math.MaxUint64), wide.Of(1)); got != (api.Wide{Hi: 1}) || over {
		t.Errorf("a carry: %v, %v", got, over)
	}
	if got, over := wide.Add(api.Wide{Hi: math.MaxUint64}, api.Wide{Hi: 1, Lo: 5}); got != wide.Of(5) || !over {
		t.Errorf("beyond, without a carry between the words: %v, %v", got, over)
	}
}

func TestSub(t *testing.T) {
	for _, a := range wides() {
		for _, b := range wides() {
			exact := new(big.Int).Sub(bigOf(a), bigOf(b))
			got, under := wide.Sub(a, b)
			if got != wideOf(exact) || under != (exact.Sign() < 0) {
				t.Fatalf("Sub(%v, %v) = %v, %v", a, b, got, under)
			}
		}
	}
}

func TestSubAtTheEnd(t *testing.T) {
	if got, under := wide.Sub(wide.Of(0), wide.Of(1)); got != greatest() || !under {
		t.Errorf("0 less 1: %v, %v", got, under)
	}
	if got, under := wide.Sub(api.Wide{Hi: 1}, wide.Of(1)); got != wide.Of(math.MaxUint64) || under {
		t.Errorf("2^64 less 1: %v, %v", got, under)
	}
	if got, under := wide.Sub(api.Wide{Hi: 3, Lo: 4}, api.Wide{Hi: 3, Lo: 4}); got != wide.Of(0) || under {
		t.Errorf("a number less itself: %v, %v", got, under)
	}
}

// P2.3

func TestMul(t *testing.T) {
	for _, a := range words() {
		for _, b := range words() {
			want := wideOf(new(big.Int).Mul(new(big.Int).SetUint64(a), new(big.Int).SetUint64(b)))
			if got := wide.Mul(a, b); got != want {
				t.Errorf("Mul(%d, %d) = %v, not %v", a, b, got, want)
			}
		}
	}
	if got := wide.Mul(math.MaxUint64, math.MaxUint64); got != (api.Wide{Hi: math.MaxUint64 - 1, Lo: 1}) {
		t.Errorf("the greatest product = %v", got)
	}
}

func TestMulOfSingleBits(t *testing.T) {
	for i := range 64 {
		for j := range 64 {
			want := wideOf(new(big.Int).Lsh(big.NewInt(1), uint(i+j)))
			if got := wide.Mul(1<<i, 1<<j); got != want {
				t.Errorf("2^%d times 2^%d = %v", i, j, got)
			}
		}
	}
}

// P2.4

func TestDiv(t *testing.T) {
	for _, a := range wides() {
		for _, n := range words() {
			if n == 0 {
				continue
			}
			q, r := new(big.Int).DivMod(bigOf(a), new(big.Int).SetUint64(n), new(big.Int))
			got, rest := wide.Div(a, n)
			if got != wideOf(q) || rest != r.Uint64() {
				t.Fatalf("Div(%v, %d) = %v, %d, not %v, %v", a, n, got, rest, q, r)
			}
		}
	}
	if q, r := wide.Div(api.Wide{Hi: 1}, 10); q != wide.Of(1844674407370955161) || r != 6 {
		t.Errorf("2^64 by 10 = %v, %d", q, r)
	}
}

func TestDivByNothing(t *testing.T) {
	for _, a := range wides() {
		if q, r := wide.Div(a, 0); q != wide.Of(0) || r != 0 {
			t.Errorf("Div(%v, 0) = %v, %d", a, q, r)
		}
	}
}

// P2.5

func TestCap(t *testing.T) {
	for _, a := range wides() {
		for _, most := range words() {
			want := most
			if bigOf(a).Cmp(new(big.Int).SetUint64(most)) < 0 {
				want = a.Lo
			}
			if got := wide.Cap(a, most); got != want {
				t.Errorf("Cap(%v, %d) = %d, not %d", a, most, got, want)
			}
		}
	}
}

func TestText(t *testing.T) {
	for _, a := range wides() {
		if got, want := wide.Text(a), bigOf(a).String(); got != want {
			t.Errorf("Text(%v) = %q, not %q", a, got, want)
		}
	}
	if got := wide.Text(greatest()); got != "340282366920938463463374607431768211455" {
		t.Errorf("the greatest number's digits = %q", got)
	}
	if got := wide.Text(api.Wide{}); got != "0" {
		t.Errorf("Text of 0 = %q", got)
	}
}

func TestTextAboutPowersOfTen(t *testing.T) {
	power := big.NewInt(1)
	for range 39 {
		for _, more := range []int64{-1, 0, 1} {
			n := new(big.Int).Add(power, big.NewInt(more))
			if got := wide.Text(wideOf(n)); got != n.String() {
				t.Errorf("Text = %q, not %q", got, n)
			}
		}
		power = new(big.Int).Mul(power, big.NewInt(10))
	}
}

// P2.6

func TestSubUndoesAdd(t *testing.T) {
	for _, a := range wides() {
		for _, b := range wides() {
			sum, over := wide.Add(a, b)
			back, under := wide.Sub(sum, b)
			if back != a || over != under {
				t.Fatalf("%v and %v: %v, %v, back %v, %v", a, b, sum, over, back, under)
			}
		}
	}
}

func TestQuotientTimesDivisorIsTheDividend(t *testing.T) {
	for _, a := range wides() {
		for _, n := range words() {
			if n == 0 {
				continue
			}
			q, r := wide.Div(a, n)
			low, high := wide.Mul(q.Lo, n), wide.Mul(q.Hi, n)
			back, over := wide.Add(low, api.Wide{Hi: high.Lo})
			back, more := wide.Add(back, wide.Of(r))
			if back != a || over || more || high.Hi != 0 || r >= n {
				t.Fatalf("%v by %d: %v, rest %d", a, n, q, r)
			}
		}
	}
}

// P5 of the general rules: a call answers the same whatever was called ahead of it.
func TestNothingIsKept(t *testing.T) {
	for range 3 {
		if got := wide.Text(wide.Of(10)); got != "10" {
			t.Errorf("Text = %q", got)
		}
		if got := wide.Mul(1<<32, 1<<33); got != (api.Wide{Hi: 2}) {
			t.Errorf("Mul = %v", got)
		}
		if q, r := wide.Div(wide.Of(7), 2); q != wide.Of(3) || r != 1 {
			t.Errorf("Div = %v, %d", q, r)
		}
		if _, over := wide.Add(greatest(), greatest()); !over {
			t.Error("Add does not go beyond")
		}
		if got, over := wide.Add(wide.Of(1), wide.Of(1)); got != wide.Of(2) || over {
			t.Errorf("Add = %v, %v", got, over)
		}
	}
}
