package curve_test

import (
	"math"
	"math/big"
	"math/rand"
	"slices"
	"testing"

	"weighbridge/api"
	"weighbridge/curve"
	"weighbridge/meter"
)

const (
	// most is the greatest number of a word.
	most = math.MaxUint64
	// nano is what a byte takes.
	nano = 1000000000
)

// big64 tells a number as one of any size.
func big64(n uint64) *big.Int {
	return new(big.Int).SetUint64(n)
}

// latest tells the greatest time up to each packet.
func latest(l []api.Sample) []uint64 {
	out := make([]uint64, len(l))
	for i, p := range l {
		out[i] = p.Time
		if i > 0 {
			out[i] = max(out[i-1], p.Time)
		}
	}
	return out
}

// excess tells the excess from one packet to another one, as the document says it.
func excess(l []api.Sample, from, to int, rate uint64) *big.Int {
	at := latest(l)
	bytes := new(big.Int)
	for _, p := range l[from : to+1] {
		bytes.Add(bytes, big.NewInt(int64(p.Size)))
	}
	bytes.Mul(bytes, big.NewInt(nano))
	bytes.Sub(bytes, new(big.Int).Mul(big64(rate), big64(at[to]-at[from])))
	if bytes.Sign() < 0 {
		return new(big.Int)
	}
	return bytes
}

// wrong tells the fault of the first size that none has.
func wrong(l []api.Sample) api.Fault {
	at := slices.IndexFunc(l, func(p api.Sample) bool { return p.Size < 0 || p.Size > 65575 })
	if at < 0 {
		return api.Fault{}
	}
	return api.Fault{Errno: api.ErrRange, At: at}
}

// breaks tells what Breaks is to tell.
func breaks(l []api.Sample, rate, burst uint64) (int, int, api.Fault) {
	if fault := wrong(l); fault.Errno != api.OK {
		return 0, 0, fault
	}
	rim := new(big.Int).Mul(big64(burst), big.NewInt(nano))
	for to := range l {
		for from := range to + 1 {
			if excess(l, from, to, rate).Cmp(rim) > 0 {
				return from, to, api.Fault{Errno: api.ErrBurst, At: to}
			}
		}
	}
	return 0, 0, api.Fault{}
}

// least tells what Least is to tell.
func least(l []api.Sample, rate uint64) (uint64, api.Fault) {
	if fault := wrong(l); fault.Errno != api.OK {
		return 0, fault
	}
	greatest := new(big.Int)
	for to := range l {
		for from := range to + 1 {
			if e := excess(l, from, to, rate); e.Cmp(greatest) > 0 {
				greatest = e
			}
		}
	}
	greatest.Add(greatest, big.NewInt(nano-1))
	return greatest.Div(greatest, big.NewInt(nano)).Uint64(), api.Fault{}
}

// peak tells what Peak is to tell.
func peak(l []api.Sample, window uint64) (int, api.Fault) {
	if fault := wrong(l); fault.Errno != api.OK {
		return 0, fault
	}
	at := latest(l)
	greatest := 0
	for from := range l {
		sum := 0
		for to := from; to < len(l) && at[to]-at[from] <= window; to++ {
			sum += l[to].Size
			greatest = max(greatest, sum)
		}
	}
	return greatest, api.Fault{}
}

// checkAll holds all calls that take packets alone to what they are to tell, and P29.5.
func checkAll(t *testing.T, l []api.Sample, rate, burst, window uint64) {
	t.Helper()
	wantFrom, wantTo, wantFault := breaks(l, rate, burst)
	if from, to, fault := curve.Breaks(l, rate, burst); from != wantFrom || to != wantTo || fault != wantFault {
		t.Fatalf("Breaks(%v, %d, %d) = %d, %d, %v, not %d, %d, %v", l, rate, burst, from, to, fault, wantFrom, wantTo, wantFault)
	}
	wantLeast, wantFault := least(l, rate)
	if n, fault := curve.Least(l, rate); n != wantLeast || fault != wantFault {
		t.Fatalf("Least(%v, %d) = %d, %v, not %d, %v", l, rate, n, fault, wantLeast, wantFault)
	}
	wantPeak, wantFault := peak(l, window)
	if n, fault := curve.Peak(l, window); n != wantPeak || fault != wantFault {
		t.Fatalf("Peak(%v, %d) = %d, %v, not %d, %v", l, window, n, fault, wantPeak, wantFault)
	}
	wantTotal, wantFault := peak(l, most)
	if n, fault := curve.Total(l); n != wantTotal || fault != wantFault {
		t.Fatalf("Total(%v) = %d, %v, not %d, %v", l, n, fault, wantTotal, wantFault)
	}
	if wantFault.Errno == api.OK {
		checkLeast(t, l, rate, wantLeast)
	}
}

// P29.1

func TestTotal(t *testing.T) {
	cases := []struct {
		l    []api.Sample
		want int
	}{
		{nil, 0}, {[]api.Sample{}, 0}, {[]api.Sample{{}}, 0}, {[]api.Sample{{Time: 9, Size: 1}}, 1}, {[]api.Sample{{Time: most, Size: 65575}}, 65575},
		{[]api.Sample{{Time: 9, Size: 1}, {Time: 3, Size: 65575}, {Size: 0}, {Time: 4, Size: 26}}, 65602},
		{slices.Repeat([]api.Sample{{Size: 65575}}, 100000), 6557500000},
	}
	for i, c := range cases {
		if n, fault := curve.Total(c.l); n != c.want || fault != (api.Fault{}) {
			t.Errorf("Total %d = %d, %v, not %d", i, n, fault, c.want)
		}
	}
}

// Sizes that none has, at each place, alone and with others behind them and with curves that break ahead of them.
func TestWrongSizes(t *testing.T) {
	for _, size := range []int{-1, -65575, math.MinInt, 65576, 1 << 20, 1 << 32, math.MaxInt} {
		for at := range 5 {
			for _, behind := range []int{0, -1, 65576} {
				l := make([]api.Sample, 5)
				for i := range l {
					l[i] = api.Sample{Time: uint64(i), Size: 65575}
				}
				l[4].Size = behind
				l[at].Size = size
				checkAll(t, l, 0, 0, 0)
				checkAll(t, l, 1000, most, most)
				if n, fault := curve.Total(l); n != 0 || fault != (api.Fault{Errno: api.ErrRange, At: at}) {
					t.Errorf("Total(%v) = %d, %v", l, n, fault)
				}
			}
		}
	}
}

// P29.2

func TestOnly(t *testing.T) {
	l := []api.Sample{{Time: 9, Size: 10}, {Time: 3, Size: 20}, {Time: 7, Size: 30}, {Time: 1, Size: 40}}
	cases := []struct {
		colours []int
		worst   int
		sizes   [4]int
	}{
		{[]int{0, 1, 2, 0}, api.Green, [4]int{10, 0, 0, 40}},
		{[]int{0, 1, 2, 0}, api.Yellow, [4]int{10, 20, 0, 40}},
		{[]int{0, 1, 2, 0}, api.Red, [4]int{10, 20, 30, 40}},
		{[]int{0, 1, 2, 0}, -1, [4]int{}},
		{[]int{0, 1, 2, 0}, math.MaxInt, [4]int{10, 20, 30, 40}},
		{[]int{0, 1, 2, 0}, math.MinInt, [4]int{}},
		{nil, api.Red, [4]int{}},
		{nil, math.MaxInt, [4]int{}},
		{[]int{}, api.Green, [4]int{}},
		{[]int{0}, api.Green, [4]int{10, 0, 0, 0}},
		{[]int{2, 0, 0}, api.Yellow, [4]int{0, 20, 30, 0}},
		{[]int{0, 0, 0, 0, 2, 2}, api.Green, [4]int{10, 20, 30, 40}},
		// What is no colour is held against the worst one by its number, too.
		{[]int{-1, 3, math.MinInt, math.MaxInt}, api.Green, [4]int{10, 0, 30, 0}},
		{[]int{-1, 3, math.MinInt, math.MaxInt}, api.Red, [4]int{10, 0, 30, 0}},
		{[]int{-1, 3, math.MinInt, math.MaxInt}, 3, [4]int{10, 20, 30, 0}},
		{[]int{-1, -2, math.MinInt, 0}, -2, [4]int{0, 20, 30, 0}},
	}
	for i, c := range cases {
		out := curve.Only(l, c.colours, c.worst)
		for at, p := range l {
			p.Size = c.sizes[at]
			if len(out) != len(l) || out[at] != p {
				t.Errorf("Only %d = %v: not %v at %d", i, out, p, at)
			}
		}
	}
	for _, l := range [][]api.Sample{nil, {}} {
		if out := curve.Only(l, []int{0, 1}, api.Red); len(out) != 0 {
			t.Errorf("Only of nothing = %v", out)
		}
	}
	// A size that no packet has stays, as any other one does.
	odd := []api.Sample{{Size: -1}, {Size: math.MaxInt}, {Size: math.MinInt}}
	if out := curve.Only(odd, []int{0, 0, 1}, api.Green); !slices.Equal(out, []api.Sample{{Size: -1}, {Size: math.MaxInt}, {}}) {
		t.Errorf("Only of odd sizes = %v", out)
	}
}

// P29.3

// example are the packets of the document's example.
func example() []api.Sample {
	return []api.Sample{{Time: 0, Size: 1000}, {Time: nano / 2, Size: 700}, {Time: nano / 10 * 4, Size: 300}}
}

func TestBreaksOfExamples(t *testing.T) {
	burst := func(to int) api.Fault { return api.Fault{Errno: api.ErrBurst, At: to} }
	cases := []struct {
		l           []api.Sample
		rate, burst uint64
		from, to    int
		fault       api.Fault
	}{
		{example(), 1000, 1500, 0, 0, api.Fault{}},
		{example(), 1000, 1499, 0, 2, burst(2)},
		{example(), 1000, 1199, 0, 1, burst(1)},
		{example(), 1000, 1200, 0, 2, burst(2)},
		{example(), 1000, 999, 0, 0, burst(0)},
		{example(), 1000, 0, 0, 0, burst(0)},
		{example(), 1000, most, 0, 0, api.Fault{}},
		{example(), most, 1000, 0, 0, api.Fault{}},
		{example(), most, 999, 0, 0, burst(0)},
		{nil, 0, 0, 0, 0, api.Fault{}},
		{[]api.Sample{}, 0, 0, 0, 0, api.Fault{}},
		{[]api.Sample{{Time: 5}, {Time: 9}}, 0, 0, 0, 0, api.Fault{}},
		// The last packet breaks alone, and at lower rates from those ahead, too.
		{[]api.Sample{{Size: 9}, {Time: nano, Size: 10}, {Time: 2 * nano, Size: 31}}, 10, 30, 1, 2, burst(2)},
		{[]api.Sample{{Size: 9}, {Time: nano, Size: 10}, {Time: 2 * nano, Size: 31}}, 11, 30, 2, 2, burst(2)},
		{[]api.Sample{{Size: 9}, {Time: nano, Size: 10}, {Time: 2 * nano, Size: 31}}, 9, 30, 0, 2, burst(2)},
		// The packet breaks from the first two, or from the first one alone, but not from those behind them.
		{[]api.Sample{{Size: 10}, {Size: 10}, {Time: nano, Size: 0}, {Time: nano, Size: 15}}, 15, 20, 0, 0, api.Fault{}},
		{[]api.Sample{{Size: 5}, {Size: 15}, {Time: nano, Size: 0}, {Time: nano, Size: 20}}, 14, 20, 0, 3, burst(3)},
		{[]api.Sample{{Size: 1}, {Size: 15}, {Time: nano, Size: 0}, {Time: nano, Size: 20}}, 15, 20, 0, 3, burst(3)},
		{[]api.Sample{{Size: 0}, {Size: 15}, {Time: nano, Size: 0}, {Time: nano, Size: 20}}, 15, 20, 0, 0, api.Fault{}},
		// From the second one no less comes in no longer a time: the first one with no bytes counts.
		{[]api.Sample{{Size: 0}, {Size: 16}, {Time: nano, Size: 0}, {Time: nano, Size: 20}}, 15, 20, 0, 3, burst(3)},
		{[]api.Sample{{Time: 1}, {Time: 2, Size: 16}, {Time: nano, Size: 20}}, 15, 20, 0, 2, burst(2)},
		// One part of a billionth of a byte too much.
		{[]api.Sample{{Size: 1}, {Time: 1, Size: 1}}, 1, 1, 0, 1, burst(1)},
		{[]api.Sample{{Size: 1}, {Time: nano, Size: 1}}, 1, 1, 0, 0, api.Fault{}},
		{[]api.Sample{{Size: 1}, {Time: nano - 1, Size: 1}}, 1, 1, 0, 1, burst(1)},
		{[]api.Sample{{Size: 1}, {Time: 1, Size: 1}}, nano, 1, 0, 0, api.Fault{}},
		{[]api.Sample{{Size: 1}, {Time: 1, Size: 1}}, nano - 1, 1, 0, 1, burst(1)},
		// What the rate brings goes beyond a word, in every way.
		{[]api.Sample{{Size: 65575}, {Time: most, Size: 65575}}, most, 65575, 0, 0, api.Fault{}},
		{[]api.Sample{{Size: 65575}, {Time: most, Size: 65575}}, 1, 65575, 0, 0, api.Fault{}},
		{[]api.Sample{{Size: 65575}, {Time: 1 << 32, Size: 65575}}, 1 << 32, 65574, 0, 0, burst(0)},
		{[]api.Sample{{Size: 65575}, {Time: 1 << 32, Size: 65575}}, 1 << 32, 65575, 0, 0, api.Fault{}},
		// A time that goes back is that of the packet ahead.
		{[]api.Sample{{Time: nano, Size: 10}, {Time: 0, Size: 10}, {Time: nano, Size: 10}}, most, 29, 0, 2, burst(2)},
		{[]api.Sample{{Time: most, Size: 10}, {Time: 0, Size: 10}, {Time: 5, Size: 10}}, most, 30, 0, 0, api.Fault{}},
	}
	for i, c := range cases {
		from, to, fault := curve.Breaks(c.l, c.rate, c.burst)
		if from != c.from || to != c.to || fault != c.fault {
			t.Errorf("Breaks %d = %d, %d, %v, not %d, %d, %v", i, from, to, fault, c.from, c.to, c.fault)
		}
		checkAll(t, c.l, c.rate, c.burst, c.rate)
	}
}

// All short lists of few times and sizes, at all rates and bursts near them.
func TestAllShort(t *testing.T) {
	var step func(l []api.Sample, left int)
	step = func(l []api.Sample, left int) {
		for _, rate := range []uint64{0, 1, nano, 2 * nano, 3*nano/2 + 1, most} {
			for _, burst := range []uint64{0, 1, 2, 4, most} {
				checkAll(t, l, rate, burst, burst)
			}
		}
		if left == 0 {
			return
		}
		for _, at := range []uint64{0, 1, 2} {
			for _, size := range []int{0, 1, 3} {
				step(append(slices.Clone(l), api.Sample{Time: at, Size: size}), left-1)
			}
		}
	}
	step(nil, 3)
}

// number tells a number of any length up to so many bits.
func number(draw *rand.Rand, bits int) uint64 {
	return draw.Uint64() >> (64 - bits) >> draw.Intn(bits)
}

// traffic tells packets whose times mostly go on, by steps of up to so many bits.
func traffic(draw *rand.Rand, count, timeBits, sizeBits int) []api.Sample {
	l := make([]api.Sample, draw.Intn(count))
	now := draw.Uint64() >> draw.Intn(64)
	for i := range l {
		now += number(draw, timeBits) - number(draw, timeBits)/2
		l[i] = api.Sample{Time: now, Size: int(min(number(draw, sizeBits), 65575))}
		if draw.Intn(40) == 0 {
			l[i].Time = draw.Uint64()
		}
	}
	return l
}

func TestDrawn(t *testing.T) {
	draw := rand.New(rand.NewSource(291))
	broken := 0
	for range 30000 {
		l := traffic(draw, 14, 36, 17)
		rate, burst, window := number(draw, 24), number(draw, 18), number(draw, 38)
		if draw.Intn(8) == 0 {
			l = traffic(draw, 14, 64, 17)
			rate, burst, window = number(draw, 64), number(draw, 64), number(draw, 64)
		}
		if draw.Intn(20) == 0 && len(l) > 0 {
			l[draw.Intn(len(l))].Size = []int{-1, 65576, math.MinInt, math.MaxInt}[draw.Intn(4)]
		}
		checkAll(t, l, rate, burst, window)
		n, _ := curve.Least(l, rate)
		checkAll(t, l, rate, n-min(n, uint64(draw.Intn(3))), window)
		if _, to, fault := curve.Breaks(l, rate, burst); fault.Errno == api.ErrBurst && to > 0 {
			broken++
		}
	}
	if broken < 3000 {
		t.Errorf("only %d curves break behind the first packet", broken)
	}
}

// P29.4

func TestLeastOfExamples(t *testing.T) {
	cases := []struct {
		l    []api.Sample
		rate uint64
		want uint64
	}{
		{example(), 1000, 1500}, {example(), 0, 2000}, {example(), most, 1000}, {example(), 1400, 1300}, {example(), 1401, 1300}, {example(), 1399, 1301}, {example(), 2000, 1000}, {example(), 2001, 1000},
		{nil, 0, 0}, {[]api.Sample{}, most, 0}, {[]api.Sample{{Time: 3}, {Time: 9}}, 0, 0}, {[]api.Sample{{Time: most, Size: 1}}, most, 1},
		{[]api.Sample{{Size: 1}, {Time: 1, Size: 1}}, 0, 2}, {[]api.Sample{{Size: 1}, {Time: 1, Size: 1}}, 1, 2}, {[]api.Sample{{Size: 1}, {Time: 1, Size: 1}}, nano - 1, 2}, {[]api.Sample{{Size: 1}, {Time: 1, Size: 1}}, nano, 1}, {[]api.Sample{{Size: 1}, {Time: 1, Size: 1}}, most, 1},
		{slices.Repeat([]api.Sample{{Time: 7, Size: 65575}}, 100000), most, 6557500000},
	}
	for i, c := range cases {
		if n, fault := curve.Least(c.l, c.rate); n != c.want || fault != (api.Fault{}) {
			t.Errorf("Least %d = %d, %v, not %d", i, n, fault, c.want)
		}
	}
}

// Sums of bytes beyond a word, when they are counted in billionths: so many packets that the greatest excess has two words.
func TestMany(t *testing.T) {
	const count = 400000
	l := slices.Repeat([]api.Sample{{Time: 7, Size: 65575}}, count)
	const all = count * 65575
	if from, to, fault := curve.Breaks(l, 1, all-1); from != 0 || to != count-1 || fault != (api.Fault{Errno: api.ErrBurst, At: count - 1}) {
		t.Errorf("Breaks = %d, %d, %v", from, to, fault)
	}
	if from, to, fault := curve.Breaks(l, 1, all); from != 0 || to != 0 || fault != (api.Fault{}) {
		t.Errorf("Breaks = %d, %d, %v", from, to, fault)
	}
	if n, fault := curve.Least(l, 1); n != all || fault != (api.Fault{}) {
		t.Errorf("Least = %d, %v", n, fault)
	}
	if n, fault := curve.Peak(l, 0); n != all || fault != (api.Fault{}) {
		t.Errorf("Peak = %d, %v", n, fault)
	}
	for i := range l {
		l[i].Time = uint64(i)
	}
	if n, fault := curve.Peak(l, 9); n != 10*65575 || fault != (api.Fault{}) {
		t.Errorf("Peak = %d, %v", n, fault)
	}
	// Each packet brings one billionth of a byte less than the time to the next one lets go.
	if n, fault := curve.Least(l, 65575*nano-1); n != 65576 || fault != (api.Fault{}) {
		t.Errorf("Least = %d, %v", n, fault)
	}
	if n, fault := curve.Least(l, 65575*nano); n != 65575 || fault != (api.Fault{}) {
		t.Errorf("Least = %d, %v", n, fault)
	}
}

// P29.5

// checkLeast holds the least burst to its meaning: with it nothing breaks, with one byte less something does, and a valid meter with it marks all packets green.
func checkLeast(t *testing.T, l []api.Sample, rate, burst uint64) {
	t.Helper()
	if from, to, fault := curve.Breaks(l, rate, burst); from != 0 || to != 0 || fault != (api.Fault{}) {
		t.Fatalf("Breaks(%v, %d, %d) = %d, %d, %v", l, rate, burst, from, to, fault)
	}
	if burst > 0 {
		if _, to, fault := curve.Breaks(l, rate, burst-1); fault != (api.Fault{Errno: api.ErrBurst, At: to}) {
			t.Fatalf("Breaks(%v, %d, %d) = %d, %v", l, rate, burst-1, to, fault)
		}
	}
	m := api.Meter{Kind: api.Single, Rate: rate, Burst: burst}
	if meter.Check(m) != api.OK {
		return
	}
	colours, _ := meter.Run(m, l, nil)
	if at := slices.IndexFunc(colours, func(c int) bool { return c != api.Green }); at >= 0 || len(colours) != len(l) {
		t.Fatalf("with %v packet %d of %v is not green", m, at, l)
	}
	m.Burst--
	if meter.Check(m) != api.OK {
		return
	}
	if colours, _ := meter.Run(m, l, nil); slices.Max(colours) == api.Green {
		t.Fatalf("with %v all of %v are green", m, l)
	}
}

// P29.6

func TestPeakOfExamples(t *testing.T) {
	l := []api.Sample{{Time: 10, Size: 1}, {Time: 12, Size: 2}, {Time: 5, Size: 4}, {Time: 15, Size: 8}, {Time: 15, Size: 0}, {Time: 30, Size: 9}}
	cases := []struct {
		l      []api.Sample
		window uint64
		want   int
	}{
		{l, 0, 9}, {l, 1, 9}, {l, 2, 9}, {l, 3, 14}, {l, 4, 14}, {l, 5, 15}, {l, 14, 15}, {l, 15, 17}, {l, 17, 17}, {l, 18, 23}, {l, 19, 23}, {l, 20, 24}, {l, most, 24},
		{l[:5], 0, 8}, {l[:3], 0, 6}, {l[:3], 1, 6}, {l[:3], 2, 7}, {l[:1], 0, 1}, {l[:0], 0, 0}, {nil, most, 0},
		{[]api.Sample{{Time: 0, Size: 5}, {Time: most, Size: 6}}, most - 1, 6}, {[]api.Sample{{Time: 0, Size: 5}, {Time: most, Size: 6}}, most, 11},
		{[]api.Sample{{Time: most, Size: 5}, {Time: 0, Size: 6}}, 0, 11}, {[]api.Sample{{Time: 3}, {Time: 3}}, most, 0},
	}
	for i, c := range cases {
		if n, fault := curve.Peak(c.l, c.window); n != c.want || fault != (api.Fault{}) {
			t.Errorf("Peak %d = %d, %v, not %d", i, n, fault, c.want)
		}
	}
}

// P1, P3, P5

// kept tells a list with spare capacity whose bytes are to stay.
func kept[T any](l []T, spare T) []T {
	return append(slices.Clone(l), spare, spare, spare)[:len(l)]
}

func TestArgumentsStay(t *testing.T) {
	draw := rand.New(rand.NewSource(292))
	for range 2000 {
		l := traffic(draw, 10, 36, 17)
		colours := make([]int, draw.Intn(12))
		for i := range colours {
			colours[i] = draw.Intn(4)
		}
		// What is behind the end would break every curve, and be wrong.
		given := kept(l, api.Sample{Time: most, Size: math.MaxInt})
		before := slices.Clone(given[:cap(given)])
		painted := kept(colours, 0)
		paintedBefore := slices.Clone(painted[:cap(painted)])
		checkAll(t, given, number(draw, 24), number(draw, 18), number(draw, 38))
		out := curve.Only(given, painted, 1)
		if again := curve.Only(l, colours, 1); !slices.Equal(out, again) {
			t.Fatalf("Only(%v, %d, 1) = %v, then %v", l, colours, out, again)
		}
		for i := range out[:cap(out)] {
			out[:cap(out)][i] = api.Sample{Time: 1, Size: 1}
		}
		if !slices.Equal(given[:cap(given)], before) || !slices.Equal(painted[:cap(painted)], paintedBefore) {
			t.Fatalf("%v and %d were changed", l, colours)
		}
	}
}
