package bucket_test

import (
	"math"
	"math/big"
	"math/rand"
	"testing"

	"weighbridge/api"
	"weighbridge/bucket"
)

// most is the greatest number of a word.
const most = math.MaxUint64

// levels are some at all edges: of bytes, of bursts, and of words.
func levels() []uint64 {
	return []uint64{
		0, 1, 2, 3, 5, 100, 999999999, 1000000000, 1000000001, 1999999999, 2000000000, 65575 * api.Nano,
		1 << 32, api.MaxBurst*api.Nano - 1, api.MaxBurst * api.Nano, 1<<63 - 1, 1 << 63, 18446744073000000000, most - 1, most,
	}
}

// rates are rates and times at all edges.
func rates() []uint64 {
	return []uint64{0, 1, 2, 3, 7, 40, 1000, 999999999, 1000000000, 1<<32 - 1, 1 << 32, api.MaxRate - 1, api.MaxRate, 1<<63 + 1, most - 1, most}
}

// sizes are such as need nothing, something and too much: 18446744073 bytes are the most that a word can tell, and 2^55 and more are such whose low word alone tells a little.
func sizes() []int {
	return []int{
		math.MinInt, math.MinInt + 1, -18446744074, -1 << 55, -65575, -2, -1, 0, 1, 2, 3, 5, 1500, 65535, 65575, api.MaxBurst - 1, api.MaxBurst, api.MaxBurst + 1,
		9223372036, 9223372037, 18446744072, 18446744073, 18446744074, 18446744075, 36893488147, 36893488148, 1 << 55, 1<<55 + 1, 1 << 56, 1 << 62, math.MaxInt - 1, math.MaxInt,
	}
}

// word tells a number as one of the library's.
func word(n uint64) *big.Int {
	return new(big.Int).SetUint64(n)
}

// wideOf tells one of the library's numbers of at most 128 bits.
func wideOf(n *big.Int) api.Wide {
	return api.Wide{Hi: new(big.Int).Rsh(n, 64).Uint64(), Lo: new(big.Int).And(n, word(most)).Uint64()}
}

// number tells a number of any length, from its bits.
func number(draw *rand.Rand) uint64 {
	return draw.Uint64() >> draw.Intn(64)
}

// P24.1

func TestFull(t *testing.T) {
	for _, n := range []uint64{0, 1, 2, 30, 1500, 65575, 1<<31 - 1, 1 << 31, 1<<32 - 1, 1 << 32} {
		want := new(big.Int).Mul(word(n), word(1000000000))
		if got, e := bucket.Full(n); word(got).Cmp(want) != 0 || e != api.OK {
			t.Errorf("Full(%d) = %d, %d, not %v", n, got, e, want)
		}
	}
	draw := rand.New(rand.NewSource(241))
	for range 1000 {
		n := uint64(draw.Intn(1<<32 + 1))
		if got, e := bucket.Full(n); got/1000000000 != n || got%1000000000 != 0 || e != api.OK {
			t.Fatalf("Full(%d) = %d, %d", n, got, e)
		}
	}
}

func TestFullOfTooMuch(t *testing.T) {
	for _, n := range []uint64{1<<32 + 1, 1<<32 + 2, 1 << 33, 18446744073, 18446744074, 1 << 55, 1 << 63, most} {
		if got, e := bucket.Full(n); got != 0 || e != api.ErrBurst {
			t.Errorf("Full(%d) = %d, %d", n, got, e)
		}
	}
}

// P24.2

// grown tells what Grow is to tell.
func grown(level, rim, rate, dt uint64) (uint64, api.Wide) {
	gain := new(big.Int).Mul(word(rate), word(dt))
	if level >= rim {
		return level, wideOf(gain)
	}
	sum := new(big.Int).Add(word(level), gain)
	if sum.Cmp(word(rim)) <= 0 {
		return sum.Uint64(), api.Wide{}
	}
	return rim, wideOf(sum.Sub(sum, word(rim)))
}

// checkGrow holds Grow to what it is to tell.
func checkGrow(t *testing.T, level, rim, rate, dt uint64) {
	t.Helper()
	want, wantOver := grown(level, rim, rate, dt)
	if got, over := bucket.Grow(level, rim, rate, dt); got != want || over != wantOver {
		t.Fatalf("Grow(%d, %d, %d, %d) = %d, %v, not %d, %v", level, rim, rate, dt, got, over, want, wantOver)
	}
}

func TestGrowOfExamples(t *testing.T) {
	cases := []struct {
		level, rim, rate, dt uint64
		want                 uint64
		over                 api.Wide
	}{
		{5, 100, 3, 40, 100, api.Wide{Lo: 25}}, {5, 100, 3, 31, 98, api.Wide{}}, {5, 100, 5, 19, 100, api.Wide{}}, {5, 100, 4, 24, 100, api.Wide{Lo: 1}},
		{100, 100, 3, 40, 100, api.Wide{Lo: 120}}, {101, 100, 3, 40, 101, api.Wide{Lo: 120}}, {99, 100, 3, 40, 100, api.Wide{Lo: 119}}, {0, 0, 3, 40, 0, api.Wide{Lo: 120}},
		{5, 100, 0, 40, 5, api.Wide{}}, {5, 100, 3, 0, 5, api.Wide{}}, {0, most, 1 << 32, 1 << 32, most, api.Wide{Lo: 1}}, {1, most, most, 1, most, api.Wide{Lo: 1}},
		{0, 0, most, most, 0, api.Wide{Hi: most - 1, Lo: 1}}, {most, 5, most, most, most, api.Wide{Hi: most - 1, Lo: 1}}, {0, most, most, most, most, api.Wide{Hi: most - 2, Lo: 2}},
	}
	for _, c := range cases {
		if got, over := bucket.Grow(c.level, c.rim, c.rate, c.dt); got != c.want || over != c.over {
			t.Errorf("Grow(%d, %d, %d, %d) = %d, %v, not %d, %v", c.level, c.rim, c.rate, c.dt, got, over, c.want, c.over)
		}
	}
}

func TestGrow(t *testing.T) {
	for _, level := range levels() {
		for _, rim := range levels() {
			for _, rate := range rates() {
				for _, dt := range rates() {
					checkGrow(t, level, rim, rate, dt)
				}
			}
		}
	}
}

func TestGrowOfDrawn(t *testing.T) {
	draw := rand.New(rand.NewSource(242))
	for range 100000 {
		checkGrow(t, number(draw), number(draw), number(draw), number(draw))
	}
}

// A gain up to just the rim leaves nothing, and one above it what is above.
func TestGrowAtTheRim(t *testing.T) {
	draw := rand.New(rand.NewSource(243))
	for range 10000 {
		level, gain := number(draw)/2, number(draw)/2
		for _, rim := range []uint64{level + gain, level + gain + 1, max(level+gain, 1) - 1} {
			checkGrow(t, level, rim, gain, 1)
			checkGrow(t, level, rim, 1, gain)
		}
	}
}

// P24.3

// need tells what Need is to tell.
func need(size int) (uint64, bool) {
	n := new(big.Int).Mul(big.NewInt(int64(size)), big.NewInt(1000000000))
	if !n.IsUint64() {
		return 0, false
	}
	return n.Uint64(), true
}

func TestNeed(t *testing.T) {
	l := sizes()
	draw := rand.New(rand.NewSource(244))
	for range 10000 {
		l = append(l, int(number(draw)), -int(number(draw)), 18446744073+draw.Intn(9)-4)
	}
	for _, size := range l {
		want, wantOk := need(size)
		if got, ok := bucket.Need(size); got != want || ok != wantOk {
			t.Errorf("Need(%d) = %d, %v, not %d, %v", size, got, ok, want, wantOk)
		}
	}
}

// checkTake holds Take to what it is to tell.
func checkTake(t *testing.T, level uint64, size int) {
	t.Helper()
	want, wantOk := level, false
	if n, ok := need(size); ok && n <= level {
		want, wantOk = level-n, true
	}
	if got, ok := bucket.Take(level, size); got != want || ok != wantOk {
		t.Fatalf("Take(%d, %d) = %d, %v, not %d, %v", level, size, got, ok, want, wantOk)
	}
}

func TestTake(t *testing.T) {
	draw := rand.New(rand.NewSource(245))
	for _, size := range sizes() {
		for _, level := range levels() {
			checkTake(t, level, size)
		}
		for range 100 {
			checkTake(t, number(draw), size)
		}
		// Just what is needed is taken, and nothing where a part of a byte lacks.
		if n, ok := need(size); ok {
			for _, level := range []uint64{n, n + 1, n - 1, n + 1000000000, n - 1000000000} {
				checkTake(t, level, size)
			}
		}
	}
}

func TestTakeOfNothing(t *testing.T) {
	for _, level := range levels() {
		if got, ok := bucket.Take(level, 0); got != level || !ok {
			t.Errorf("Take(%d, 0) = %d, %v", level, got, ok)
		}
		if got, ok := bucket.Take(level, -1); got != level || ok {
			t.Errorf("Take(%d, -1) = %d, %v", level, got, ok)
		}
	}
}

// P24.4

// wait tells what Wait is to tell.
func wait(level, rim, rate uint64, size int) (uint64, bool) {
	n, ok := need(size)
	if !ok {
		return 0, false
	}
	if n <= level {
		return 0, true
	}
	if n > rim || rate == 0 {
		return 0, false
	}
	up := new(big.Int).Add(word(n-level), word(rate-1))
	return up.Div(up, word(rate)).Uint64(), true
}

// checkWait holds Wait to what it is to tell.
func checkWait(t *testing.T, level, rim, rate uint64, size int) {
	t.Helper()
	want, wantOk := wait(level, rim, rate, size)
	if got, ok := bucket.Wait(level, rim, rate, size); got != want || ok != wantOk {
		t.Fatalf("Wait(%d, %d, %d, %d) = %d, %v, not %d, %v", level, rim, rate, size, got, ok, want, wantOk)
	}
}

func TestWaitOfExamples(t *testing.T) {
	cases := []struct {
		level, rim, rate uint64
		size             int
		want             uint64
		ok               bool
	}{
		{500000000, 5000000000, 3, 1, 166666667, true}, {499999999, 5000000000, 3, 1, 166666667, true}, {499999998, 5000000000, 3, 1, 166666668, true}, {400000000, 5000000000, 3, 1, 200000000, true},
		{999999999, 5000000000, 3, 1, 1, true}, {999999999, 5000000000, most, 1, 1, true}, {999999997, 5000000000, 3, 1, 1, true}, {999999996, 5000000000, 3, 1, 2, true},
		{1000000000, 0, 0, 1, 0, true}, {1000000000, 5000000000, 3, 1, 0, true}, {0, 0, 0, 0, 0, true}, {7, 3, 0, 0, 0, true}, {most, 0, 0, 18446744073, 0, true},
		{999999999, 999999999, 3, 1, 0, false}, {0, 1000000000, 0, 1, 0, false}, {0, 1000000000, 1, 1, 1000000000, true}, {0, 999999999, 1, 1, 0, false}, {2000000000, 2000000000, 9, 3, 0, false},
		{most, most, most, -1, 0, false}, {most, most, most, math.MinInt, 0, false}, {most, most, most, 18446744074, 0, false}, {most, most, most, 1 << 55, 0, false}, {most, most, most, math.MaxInt, 0, false},
		{0, most, 1, 18446744073, 18446744073000000000, true}, {1, most, 1, 18446744073, 18446744072999999999, true}, {0, most, 2, 18446744073, 9223372036500000000, true}, {0, most, most, 18446744073, 1, true},
	}
	for _, c := range cases {
		if got, ok := bucket.Wait(c.level, c.rim, c.rate, c.size); got != c.want || ok != c.ok {
			t.Errorf("Wait(%d, %d, %d, %d) = %d, %v, not %d, %v", c.level, c.rim, c.rate, c.size, got, ok, c.want, c.ok)
		}
	}
}

func TestWait(t *testing.T) {
	for _, level := range levels() {
		for _, rim := range levels() {
			for _, rate := range rates() {
				for _, size := range sizes() {
					checkWait(t, level, rim, rate, size)
				}
			}
		}
	}
}

func TestWaitOfDrawn(t *testing.T) {
	draw := rand.New(rand.NewSource(246))
	for range 100000 {
		size := int(number(draw) >> 1)
		checkWait(t, number(draw), number(draw), number(draw), size)
		// Most of what is drawn anew is too much for a rim.
		n, _ := need(size % 18446744074)
		checkWait(t, n-min(n, number(draw)), n+number(draw)%1000, number(draw), size%18446744074)
	}
}

// P24.5

func TestGrowInTwoSteps(t *testing.T) {
	draw := rand.New(rand.NewSource(247))
	for range 100000 {
		level, rim, rate, first, second := number(draw), number(draw), number(draw), number(draw)/2, number(draw)/2
		want, wantOver := bucket.Grow(level, rim, rate, first+second)
		half, over := bucket.Grow(level, rim, rate, first)
		got, rest := bucket.Grow(half, rim, rate, second)
		total := sum(over, rest)
		if got != want || total.Cmp(sum(wantOver)) != 0 {
			t.Fatalf("Grow(%d, %d, %d, ..) by %d and %d = %d, %v, not %d, %v", level, rim, rate, first, second, got, total, want, wantOver)
		}
	}
}

// sum tells a sum as one of the library's numbers.
func sum(l ...api.Wide) *big.Int {
	total := new(big.Int)
	for _, a := range l {
		total.Add(total, new(big.Int).Add(new(big.Int).Lsh(word(a.Hi), 64), word(a.Lo)))
	}
	return total
}

// taken tells whether so many bytes can be taken some time later.
func taken(level, rim, rate, dt uint64, size int) bool {
	level, _ = bucket.Grow(level, rim, rate, dt)
	_, ok := bucket.Take(level, size)
	return ok
}

// What is waited for can be taken then and not a nanosecond earlier, and what is never there cannot be taken at the last time of all.
func TestTakeAfterWait(t *testing.T) {
	draw := rand.New(rand.NewSource(248))
	waited := 0
	for range 200000 {
		size := draw.Intn(70000)
		level, rim, rate := number(draw)>>16, uint64(draw.Intn(90000))*1000000000, number(draw)>>draw.Intn(64)
		dt, ok := bucket.Wait(level, rim, rate, size)
		if ok && !taken(level, rim, rate, dt, size) {
			t.Fatalf("%d bytes cannot be taken from %d after %d", size, level, dt)
		}
		if ok && dt > 0 {
			waited++
			if taken(level, rim, rate, dt-1, size) {
				t.Fatalf("%d bytes can be taken from %d ahead of %d", size, level, dt)
			}
		}
		if !ok && taken(level, rim, rate, most, size) {
			t.Fatalf("%d bytes can be taken from %d", size, level)
		}
	}
	if waited < 10000 {
		t.Errorf("%d were waited for", waited)
	}
}
