package double_test

import (
	"math"
	"math/big"
	"math/rand"
	"testing"

	"weighbridge/api"
	"weighbridge/double"
)

const (
	// most is the greatest number of a word.
	most = math.MaxUint64
	// nano is what a byte takes.
	nano = 1000000000
)

// made tells a meter of two rates.
func made(aware bool, rate, peak, burst, extra uint64) api.Meter {
	return api.Meter{Kind: api.Double, Aware: aware, Rate: rate, Peak: peak, Burst: burst, Extra: extra}
}

// example tells the meter of the document's example.
func example(aware bool) api.Meter {
	return made(aware, 1000, 2000, 1000, 1500)
}

// valid are meters at all edges; the bucket of the peak may be the lesser one, and each rate may be 0.
func valid() []api.Meter {
	var l []api.Meter
	for _, aware := range []bool{false, true} {
		for _, rates := range [][2]uint64{{0, 0}, {0, 1}, {1, 1}, {0, api.MaxRate}, {1000, 2000}, {1999, 2000}, {2000, 2000}, {api.MaxRate - 1, api.MaxRate}, {api.MaxRate, api.MaxRate}} {
			for _, burst := range []uint64{1, 2, 1000, api.MaxBurst - 1, api.MaxBurst} {
				for _, extra := range []uint64{1, 1500, api.MaxBurst} {
					l = append(l, made(aware, rates[0], rates[1], burst, extra))
				}
			}
		}
	}
	return l
}

// wrong is a meter that is not valid, and its error.
type wrong struct {
	m api.Meter
	e api.Errno
}

// invalid are such meters: alone, and with what is named later wrong, too.
func invalid() []wrong {
	with := func(change func(m *api.Meter)) api.Meter {
		m := example(true)
		change(&m)
		return m
	}
	return []wrong{
		{api.Meter{}, api.ErrKind},
		{with(func(m *api.Meter) { m.Kind = 0 }), api.ErrKind},
		{with(func(m *api.Meter) { m.Kind = api.Single }), api.ErrKind},
		{with(func(m *api.Meter) { m.Kind, m.Peak = api.Single, 0 }), api.ErrKind},
		{with(func(m *api.Meter) { m.Kind = 3 }), api.ErrKind},
		{with(func(m *api.Meter) { m.Kind = -1 }), api.ErrKind},
		{with(func(m *api.Meter) { m.Kind = math.MinInt }), api.ErrKind},
		{with(func(m *api.Meter) { m.Kind = math.MaxInt }), api.ErrKind},
		{with(func(m *api.Meter) { m.Kind, m.Rate, m.Burst = 0, most, most }), api.ErrKind},
		{with(func(m *api.Meter) { m.Rate = 2001 }), api.ErrRate},
		{with(func(m *api.Meter) { m.Peak = 999 }), api.ErrRate},
		{with(func(m *api.Meter) { m.Peak = 0 }), api.ErrRate},
		{with(func(m *api.Meter) { m.Rate, m.Peak = 1, 0 }), api.ErrRate},
		{with(func(m *api.Meter) { m.Rate, m.Peak = api.MaxRate, api.MaxRate-1 }), api.ErrRate},
		{with(func(m *api.Meter) { m.Rate, m.Peak = api.MaxRate+1, api.MaxRate }), api.ErrRate},
		{with(func(m *api.Meter) { m.Rate, m.Peak = api.MaxRate+1, api.MaxRate+1 }), api.ErrRate},
		{with(func(m *api.Meter) { m.Peak = api.MaxRate + 1 }), api.ErrRate},
		{with(func(m *api.Meter) { m.Peak = 1 << 63 }), api.ErrRate},
		{with(func(m *api.Meter) { m.Peak = most }), api.ErrRate},
		{with(func(m *api.Meter) { m.Rate = most }), api.ErrRate},
		{with(func(m *api.Meter) { m.Rate, m.Peak = most, most }), api.ErrRate},
		{with(func(m *api.Meter) { m.Peak, m.Burst = 0, api.MaxBurst+1 }), api.ErrRate},
		{with(func(m *api.Meter) { m.Peak, m.Burst, m.Extra = api.MaxRate+1, 0, 0 }), api.ErrRate},
		{with(func(m *api.Meter) { m.Burst = 0 }), api.ErrBurst},
		{with(func(m *api.Meter) { m.Extra = 0 }), api.ErrBurst},
		{with(func(m *api.Meter) { m.Burst, m.Extra = 0, 0 }), api.ErrBurst},
		{with(func(m *api.Meter) { m.Burst = api.MaxBurst + 1 }), api.ErrBurst},
		{with(func(m *api.Meter) { m.Extra = api.MaxBurst + 1 }), api.ErrBurst},
		{with(func(m *api.Meter) { m.Burst, m.Extra = api.MaxBurst+1, api.MaxBurst+1 }), api.ErrBurst},
		{with(func(m *api.Meter) { m.Burst, m.Extra = api.MaxBurst+1, 0 }), api.ErrBurst},
		{with(func(m *api.Meter) { m.Burst = most }), api.ErrBurst},
		{with(func(m *api.Meter) { m.Extra = most }), api.ErrBurst},
		{with(func(m *api.Meter) { m.Rate, m.Peak, m.Burst = 0, 0, 0 }), api.ErrBurst},
	}
}

// P27.1

func TestCheck(t *testing.T) {
	for _, m := range valid() {
		if e := double.Check(m); e != api.OK {
			t.Errorf("Check(%v) = %d", m, e)
		}
	}
	for _, w := range invalid() {
		if e := double.Check(w.m); e != w.e {
			t.Errorf("Check(%v) = %d, not %d", w.m, e, w.e)
		}
	}
}

// P27.2

func TestNew(t *testing.T) {
	for _, m := range valid() {
		if s, e := double.New(m); s != (api.Level{One: nano * m.Burst, Two: nano * m.Extra}) || e != api.OK {
			t.Errorf("New(%v) = %v, %d", m, s, e)
		}
	}
	for _, w := range invalid() {
		if s, e := double.New(w.m); s != (api.Level{}) || e != w.e {
			t.Errorf("New(%v) = %v, %d, not %d", w.m, s, e, w.e)
		}
	}
}

// P27.3

// word tells a number as one of the library's.
func word(n uint64) *big.Int {
	return new(big.Int).SetUint64(n)
}

// filled tells a level some time later: one that is at its rim or above stays.
func filled(level, rim, rate, elapsed uint64) uint64 {
	if level >= rim {
		return level
	}
	sum := new(big.Int).Mul(word(rate), word(elapsed))
	if sum.Add(sum, word(level)).Cmp(word(rim)) >= 0 {
		return rim
	}
	return sum.Uint64()
}

// stepped tells what Step is to tell of a valid meter and a size that is not negative.
func stepped(m api.Meter, s api.Level, t uint64, size, pre int) (api.Level, int) {
	elapsed := uint64(0)
	if s.Seen && t > s.Last {
		elapsed = t - s.Last
	}
	if !s.Seen || t > s.Last {
		s.Last = t
	}
	s.Seen = true
	s.One = filled(s.One, nano*m.Burst, m.Rate, elapsed)
	s.Two = filled(s.Two, nano*m.Extra, m.Peak, elapsed)
	need := new(big.Int).Mul(big.NewInt(int64(size)), big.NewInt(nano))
	inOne, inTwo := need.Cmp(word(s.One)) <= 0, need.Cmp(word(s.Two)) <= 0
	mayBeGreen := !m.Aware || pre == api.Green
	if inTwo && inOne && mayBeGreen {
		s.One -= need.Uint64()
		s.Two -= need.Uint64()
		return s, api.Green
	}
	if inTwo && (mayBeGreen || pre == api.Yellow) {
		s.Two -= need.Uint64()
		return s, api.Yellow
	}
	return s, api.Red
}

// checkStep holds Step to what it is to tell.
func checkStep(t *testing.T, m api.Meter, s api.Level, at uint64, size, pre int) {
	t.Helper()
	want, wantColour := s, api.Red
	if size >= 0 {
		want, wantColour = stepped(m, s, at, size, pre)
	}
	if got, colour := double.Step(m, s, at, size, pre); got != want || colour != wantColour {
		t.Fatalf("Step(%v, %v, %d, %d, %d) = %v, %d, not %v, %d", m, s, at, size, pre, got, colour, want, wantColour)
	}
}

// pres are previous colours, and numbers that are none.
func pres() []int {
	return []int{api.Green, api.Yellow, api.Red, 3, 4, -1, 255, math.MinInt, math.MaxInt}
}

func TestStepOfTheExample(t *testing.T) {
	m := example(false)
	s, _ := double.New(m)
	steps := []struct {
		t        uint64
		size     int
		one, two uint64
		last     uint64
		colour   int
	}{
		{5, 800, 200 * nano, 700 * nano, 5, api.Green},
		{5, 700, 200 * nano, 0, 5, api.Yellow},
		{5, 1, 200 * nano, 0, 5, api.Red},
		{5, 0, 200 * nano, 0, 5, api.Green},
		// A time that goes back is no time.
		{0, 1, 200 * nano, 0, 5, api.Red},
		// A tenth of a second brings 100 bytes and 200.
		{5 + nano/10, 200, 100 * nano, 0, 5 + nano/10, api.Green},
		{5 + nano/10, 100, 100 * nano, 0, 5 + nano/10, api.Red},
		{6 + nano/10, 1, 100*nano + 1000, 2000, 6 + nano/10, api.Red},
		// After one second more the second bucket is full, and half a second later still is.
		{5 + nano/10 + nano, 1001, 1000 * nano, 499 * nano, 5 + nano/10 + nano, api.Yellow},
		{5 + nano/10 + nano, 499, 501 * nano, 0, 5 + nano/10 + nano, api.Green},
		{5 + nano/10 + 2*nano, 1501, 1000 * nano, 1500 * nano, 5 + nano/10 + 2*nano, api.Red},
		{5 + nano/10 + 2*nano, 1500, 1000 * nano, 0, 5 + nano/10 + 2*nano, api.Yellow},
		{most, 1000, 0, 500 * nano, most, api.Green},
	}
	for i, step := range steps {
		var colour int
		want := api.Level{One: step.one, Two: step.two, Last: step.last, Seen: true}
		if s, colour = double.Step(m, s, step.t, step.size, api.Green); s != want || colour != step.colour {
			t.Fatalf("step %d comes to %v, %d, not %v, %d", i, s, colour, want, step.colour)
		}
	}
}

// Each bucket grows at a rate of its own: what goes beyond the rim of one does not come to the other one.
func TestStepOfEachRate(t *testing.T) {
	cases := []struct {
		m        api.Meter
		one, two uint64
		elapsed  uint64
		wantOne  uint64
		wantTwo  uint64
	}{
		{example(false), 0, 0, 7, 7000, 14000},
		{example(false), 1000 * nano, 0, 7, 1000 * nano, 14000},
		{example(false), 1000*nano - 1, 0, 7, 1000 * nano, 14000},
		{example(false), 0, 1500 * nano, 7, 7000, 1500 * nano},
		{example(false), 0, 1500*nano - 13999, 7, 7000, 1500 * nano},
		{example(false), 0, 1500*nano - 14001, 7, 7000, 1500*nano - 1},
		{example(false), 5, 6, 0, 5, 6},
		{made(false, 0, 2000, 10, 10), 5, 6, 7, 5, 14006},
		{made(false, 0, 0, 10, 10), 5, 6, most, 5, 6},
		{made(false, 3, 3, 10, 20), 5, 6, 7, 26, 27},
		{made(false, api.MaxRate, api.MaxRate, api.MaxBurst, api.MaxBurst), 0, 0, most, nano * api.MaxBurst, nano * api.MaxBurst},
		{example(false), most, most, most, most, most},
		{example(false), 1000*nano + 1, 1500*nano + 1, 7, 1000*nano + 1, 1500*nano + 1},
	}
	for _, c := range cases {
		before := api.Level{One: c.one, Two: c.two, Last: 0, Seen: true}
		want := api.Level{One: c.wantOne, Two: c.wantTwo, Last: c.elapsed, Seen: true}
		if s, colour := double.Step(c.m, before, c.elapsed, 0, api.Green); s != want || colour != api.Green {
			t.Errorf("%v of %v after %d: %v, %d", before, c.m, c.elapsed, s, colour)
		}
		// While no time was seen, none goes by.
		before.Seen = false
		if s, colour := double.Step(c.m, before, c.elapsed, 0, api.Green); s != (api.Level{One: c.one, Two: c.two, Last: c.elapsed, Seen: true}) || colour != api.Green {
			t.Errorf("%v of %v at %d: %v, %d", before, c.m, c.elapsed, s, colour)
		}
	}
}

// Each previous colour at buckets that have enough, or one of them, or none; the expected colours are of Green, Yellow, and Red and all other numbers.
func TestStepOfPreviousColours(t *testing.T) {
	cases := []struct {
		one, two uint64
		want     [3]int
	}{
		{100, 100, [3]int{api.Green, api.Yellow, api.Red}}, {100, 99, [3]int{api.Red, api.Red, api.Red}}, {99, 100, [3]int{api.Yellow, api.Yellow, api.Red}}, {99, 99, [3]int{api.Red, api.Red, api.Red}},
	}
	for _, c := range cases {
		for _, pre := range pres() {
			for _, aware := range []bool{true, false} {
				column := api.Green
				if aware && (pre < api.Green || pre > api.Yellow) {
					column = api.Red
				} else if aware {
					column = pre
				}
				before := api.Level{One: c.one * nano, Two: c.two * nano, Last: 7, Seen: true}
				want := before
				switch c.want[column] {
				case api.Green:
					want.One, want.Two = 0, 0
				case api.Yellow:
					want.Two = 0
				}
				if s, colour := double.Step(example(aware), before, 7, 100, pre); s != want || colour != c.want[column] {
					t.Errorf("%v, aware %v, with %d before: %v, %d", before, aware, pre, s, colour)
				}
			}
		}
	}
}

// A packet that is red for its previous color alone still lets its time be seen, and the buckets grow.
func TestStepOfRedPackets(t *testing.T) {
	for _, pre := range []int{api.Red, 3, -1} {
		s, colour := double.Step(example(true), api.Level{One: 1, Two: 2, Last: 3, Seen: true}, 10, 0, pre)
		if s != (api.Level{One: 7001, Two: 14002, Last: 10, Seen: true}) || colour != api.Red {
			t.Errorf("with %d before: %v, %d", pre, s, colour)
		}
	}
}

// Nothing changes where a meter is not valid or a size is negative, not even the time.
func TestStepOfWrongInputs(t *testing.T) {
	levels := []api.Level{{}, {One: 5, Two: 6, Last: 7, Seen: true}, {One: most, Two: most, Last: most}, {One: most, Two: 1, Last: 0, Seen: true}}
	for _, s := range levels {
		for _, at := range []uint64{0, 8, most} {
			for _, pre := range pres() {
				for _, w := range invalid() {
					if got, colour := double.Step(w.m, s, at, 1, pre); got != s || colour != api.Red {
						t.Errorf("Step(%v, %v, %d, 1, %d) = %v, %d", w.m, s, at, pre, got, colour)
					}
				}
				for _, size := range []int{-1, -2, -18446744074, -1 << 55, math.MinInt} {
					if got, colour := double.Step(example(false), s, at, size, pre); got != s || colour != api.Red {
						t.Errorf("Step(.., %v, %d, %d, %d) = %v, %d", s, at, size, pre, got, colour)
					}
				}
			}
		}
	}
}

// A size that is more than any bucket holds is red, but its time is seen.
func TestStepOfGreatSizes(t *testing.T) {
	m := made(false, api.MaxRate, api.MaxRate, api.MaxBurst, api.MaxBurst)
	for _, size := range []int{api.MaxBurst + 1, 18446744073, 18446744074, 1 << 55, 1<<55 + 1, 1 << 62, math.MaxInt} {
		s, colour := double.Step(m, api.Level{Last: 3, Seen: true}, most, size, api.Green)
		if s != (api.Level{One: nano * api.MaxBurst, Two: nano * api.MaxBurst, Last: most, Seen: true}) || colour != api.Red {
			t.Errorf("a size of %d: %v, %d", size, s, colour)
		}
	}
}

func TestStepAtTheEdges(t *testing.T) {
	words := []uint64{0, 1, nano - 1, nano, 1500*nano - 1, 1500 * nano, api.MaxBurst * nano, most}
	times := []uint64{0, 1, nano, most - 1, most}
	for _, m := range valid() {
		for _, one := range words {
			for _, two := range words {
				for _, last := range times {
					for _, at := range times {
						for _, size := range []int{-1, 0, 1, 1500, math.MaxInt} {
							s := api.Level{One: one, Two: two, Last: last, Seen: (one+two+at)%3 != 0}
							checkStep(t, m, s, at, size, api.Green)
							checkStep(t, m, s, at, size, api.Yellow)
						}
					}
				}
			}
		}
	}
}

// number tells a number of any length up to so many bits.
func number(draw *rand.Rand, bits int) uint64 {
	return draw.Uint64() >> (64 - bits) >> draw.Intn(bits)
}

// drawn tells a valid meter.
func drawn(draw *rand.Rand) api.Meter {
	a, b := number(draw, 40), number(draw, 40)
	return made(draw.Intn(2) == 0, min(a, b), max(a, b), number(draw, 32)+1, number(draw, 32)+1)
}

// Levels of all kinds: below and above their rims, and such as lack just what the time brings.
func TestStepOfDrawn(t *testing.T) {
	draw := rand.New(rand.NewSource(271))
	for range 300000 {
		m := drawn(draw)
		s := api.Level{One: number(draw, 64), Two: number(draw, 64), Last: number(draw, 64), Seen: draw.Intn(4) > 0}
		at := number(draw, 64)
		if draw.Intn(2) == 0 {
			at = s.Last + number(draw, 30)
		}
		if draw.Intn(2) == 0 {
			s.One, s.Two = s.One%(nano*m.Burst+1), s.Two%(nano*m.Extra+1)
		}
		size := int(number(draw, 63))
		if draw.Intn(2) == 0 {
			size %= 70000
		}
		checkStep(t, m, s, at, size, pres()[draw.Intn(9)])
		// Just what is there is taken, and one byte more is not.
		there, _ := stepped(m, s, at, 0, api.Red)
		for _, level := range []uint64{there.One, there.Two} {
			checkStep(t, m, s, at, int(level/nano), draw.Intn(3))
			checkStep(t, m, s, at, int(level/nano)+1, draw.Intn(3))
		}
	}
}

// What comes just up to a rim, and by one billionth of a byte to both sides of it, of each bucket.
func TestStepAtTheRims(t *testing.T) {
	draw := rand.New(rand.NewSource(272))
	for range 50000 {
		m := drawn(draw)
		m.Rate, m.Peak = 1, 1+number(draw, 3)
		lackOne, lackTwo := number(draw, 32)%(nano*m.Burst+1), number(draw, 32)%(nano*m.Extra+1)
		s := api.Level{One: nano*m.Burst - lackOne, Two: nano*m.Extra - lackTwo, Last: draw.Uint64() >> 1, Seen: true}
		for _, lack := range []uint64{lackOne, lackTwo / m.Peak, lackTwo} {
			for _, elapsed := range []uint64{lack, lack + 1, max(lack, 1) - 1} {
				checkStep(t, m, s, s.Last+elapsed, 0, api.Red)
			}
		}
	}
}

// P27.4

// checkKept holds a step of a level within its rims to what holds of every one of them.
func checkKept(t *testing.T, m api.Meter, before, s api.Level, size, pre, colour int) {
	t.Helper()
	if s.One > nano*m.Burst || s.Two > nano*m.Extra {
		t.Fatalf("%v exceeds a rim of %v", s, m)
	}
	if !s.Seen || before.Seen && s.Last < before.Last {
		t.Fatalf("time goes back from %v to %v", before, s)
	}
	if colour < api.Green || colour > api.Red || m.Aware && colour < min(max(pre, api.Green), api.Red) {
		t.Fatalf("a packet of color %d becomes %d", pre, colour)
	}
	if m.Aware && (pre < api.Green || pre > api.Red) && colour != api.Red {
		t.Fatalf("a packet of no color, %d, becomes %d", pre, colour)
	}
	// The same time without a packet tells what there was to take from.
	grown, _ := double.Step(m, before, s.Last, 0, api.Green)
	taken := [2]uint64{grown.One - s.One, grown.Two - s.Two}
	need := nano * uint64(size)
	want := map[int][2]uint64{api.Green: {need, need}, api.Yellow: {0, need}}[colour]
	if taken != want {
		t.Fatalf("a packet of %d bytes and color %d takes %d", size, colour, taken)
	}
}

func TestWhatHoldsOfEveryStep(t *testing.T) {
	draw := rand.New(rand.NewSource(273))
	var colours [3]int
	for range 2000 {
		rate := number(draw, 20)
		m := made(draw.Intn(2) == 0, rate, rate+number(draw, 20), number(draw, 14)+1, number(draw, 15)+1)
		s, _ := double.New(m)
		now := draw.Uint64() >> draw.Intn(64)
		for range 100 {
			before, size, pre := s, draw.Intn(1+int(m.Burst+m.Extra)), pres()[draw.Intn(9)]
			if draw.Intn(2) == 0 {
				pre, size = api.Green, size/4
			}
			// Now and then a time is any other one.
			at := now + number(draw, 30) - number(draw, 29)
			if draw.Intn(50) == 0 {
				at = draw.Uint64() >> 2
			}
			var colour int
			s, colour = double.Step(m, s, at, size, pre)
			checkKept(t, m, before, s, size, pre, colour)
			colours[colour]++
			now = at
		}
	}
	for colour, n := range colours {
		if n < 10000 {
			t.Errorf("%d packets have color %d", n, colour)
		}
	}
}

// Growing to a time in two steps comes to the same as in one.
func TestStepsOfNothing(t *testing.T) {
	draw := rand.New(rand.NewSource(274))
	for range 50000 {
		m := drawn(draw)
		s := api.Level{One: number(draw, 62) % (nano*m.Burst + 1), Two: number(draw, 62) % (nano*m.Extra + 1), Seen: true}
		first, second := number(draw, 40), number(draw, 40)
		half, _ := double.Step(m, s, first, 0, api.Red)
		got, _ := double.Step(m, half, first+second, 0, api.Red)
		if want, _ := double.Step(m, s, first+second, 0, api.Red); got != want {
			t.Fatalf("%v of %v comes to %v and %v", s, m, got, want)
		}
	}
}

// P5 of the general rules: a call answers the same whatever was called ahead of it.
func TestNothingIsKept(t *testing.T) {
	m := example(true)
	for range 3 {
		if e := double.Check(m); e != api.OK {
			t.Errorf("Check = %d", e)
		}
		if e := double.Check(api.Meter{}); e != api.ErrKind {
			t.Errorf("Check of nothing = %d", e)
		}
		s, e := double.New(m)
		if s != (api.Level{One: 1000 * nano, Two: 1500 * nano}) || e != api.OK {
			t.Errorf("New = %v, %d", s, e)
		}
		if next, colour := double.Step(m, s, 5, 1000, api.Yellow); next != (api.Level{One: 1000 * nano, Two: 500 * nano, Last: 5, Seen: true}) || colour != api.Yellow {
			t.Errorf("Step = %v, %d", next, colour)
		}
	}
}
