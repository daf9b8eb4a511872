package outlook_test

import (
	"math"
	"math/rand"
	"slices"
	"testing"

	"weighbridge/api"
	"weighbridge/meter"
	"weighbridge/outlook"
)

const (
	// most is the greatest number of a word, and the last time.
	most = math.MaxUint64
	// nano is what a byte takes.
	nano = 1000000000
)

// one tells a meter of one rate.
func one(aware bool, rate, burst, extra uint64) api.Meter {
	return api.Meter{Kind: api.Single, Aware: aware, Rate: rate, Burst: burst, Extra: extra}
}

// two tells a meter of two rates.
func two(aware bool, rate, peak, burst, extra uint64) api.Meter {
	return api.Meter{Kind: api.Double, Aware: aware, Rate: rate, Peak: peak, Burst: burst, Extra: extra}
}

// seen tells a level that saw a time.
func seen(in, also, last uint64) api.Level {
	return api.Level{One: in, Two: also, Last: last, Seen: true}
}

// invalid are meters of no kind, and of both kinds with numbers beyond their limits.
func invalid() []api.Meter {
	peak := one(false, 1, 2, 3)
	peak.Peak = 1
	return []api.Meter{
		{}, {Kind: 3, Rate: 1, Burst: 1, Extra: 1}, {Kind: -1, Rate: 1, Burst: 1, Extra: 1}, {Kind: math.MaxInt, Rate: most, Burst: most},
		one(false, api.MaxRate+1, 1, 1), one(true, most, 1, 1), one(false, 1, 0, 0), one(false, 1, api.MaxBurst+1, 1), one(true, 1, 1, api.MaxBurst+1), one(false, 1, most, most), peak,
		two(false, 2, 1, 1, 1), two(true, 1, api.MaxRate+1, 1, 1), two(false, most, most, 1, 1), two(false, 1, 1, 0, 1), two(true, 1, 1, 1, 0), two(false, 1, 1, api.MaxBurst+1, 1), two(false, 1, 1, 1, most),
	}
}

// first tells the least time from a level's last one on at which something holds that goes on holding, as it is found by halves.
func first(s api.Level, holds func(at uint64) bool) (uint64, bool) {
	var lo uint64
	if s.Seen {
		lo = s.Last
	}
	hi := uint64(most)
	if !holds(hi) {
		return 0, false
	}
	for lo < hi {
		half := lo + (hi-lo)/2
		if holds(half) {
			hi = half
		} else {
			lo = half + 1
		}
	}
	return lo, true
}

// when tells what When is to tell.
func when(m api.Meter, s api.Level, size, want int) (uint64, bool) {
	if meter.Check(m) != api.OK || size < 0 || want < 0 || want > 2 {
		return 0, false
	}
	return first(s, func(at uint64) bool {
		_, colour := meter.Step(m, s, at, size, api.Green)
		return colour <= want
	})
}

// full tells whether both buckets of a level are at or above their rims.
func full(m api.Meter, s api.Level) bool {
	return s.One >= m.Burst*nano && s.Two >= m.Extra*nano
}

// idle tells what Idle is to tell.
func idle(m api.Meter, s api.Level) (uint64, bool) {
	if meter.Check(m) != api.OK {
		return 0, false
	}
	return first(s, func(at uint64) bool {
		now, _ := meter.Step(m, s, at, 0, api.Green)
		return full(m, now)
	})
}

// pace tells what Pace is to tell.
func pace(m api.Meter, sizes []int, want int) ([]uint64, api.Fault) {
	s, e := meter.New(m)
	if e != api.OK {
		return nil, api.Fault{Errno: e}
	}
	if want < 0 || want > 2 {
		return nil, api.Fault{Errno: api.ErrColour}
	}
	var times []uint64
	for i, size := range sizes {
		at, ok := when(m, s, size, want)
		if !ok {
			return nil, api.Fault{Errno: api.ErrNone, At: i}
		}
		times = append(times, at)
		s, _ = meter.Step(m, s, at, size, api.Green)
	}
	return times, api.Fault{}
}

// checkWhen holds When to what it is to tell, and P30.4: the packet has the colour then, and not a billionth of a second ahead.
func checkWhen(t *testing.T, m api.Meter, s api.Level, size, want int) {
	t.Helper()
	wantAt, wantOk := when(m, s, size, want)
	at, ok := outlook.When(m, s, size, want)
	if at != wantAt || ok != wantOk {
		t.Fatalf("When(%v, %v, %d, %d) = %d, %t, not %d, %t", m, s, size, want, at, ok, wantAt, wantOk)
	}
	if !ok {
		return
	}
	if _, colour := meter.Step(m, s, at, size, api.Green); colour > want {
		t.Fatalf("When(%v, %v, %d, %d) = %d, but the packet is of %d then", m, s, size, want, at, colour)
	}
	if !s.Seen && at != 0 || s.Seen && at < s.Last {
		t.Fatalf("When(%v, %v, %d, %d) = %d, ahead of the last time", m, s, size, want, at)
	}
	if s.Seen && at > s.Last {
		if _, colour := meter.Step(m, s, at-1, size, api.Green); colour <= want {
			t.Fatalf("When(%v, %v, %d, %d) = %d, but the packet is of %d ahead of it", m, s, size, want, at, colour)
		}
	}
}

// checkIdle holds Idle to what it is to tell.
func checkIdle(t *testing.T, m api.Meter, s api.Level) {
	t.Helper()
	wantAt, wantOk := idle(m, s)
	if at, ok := outlook.Idle(m, s); at != wantAt || ok != wantOk {
		t.Fatalf("Idle(%v, %v) = %d, %t, not %d, %t", m, s, at, ok, wantAt, wantOk)
	}
}

// checkPace holds Pace to what it is to tell, and P30.4: at their pace all packets have the colour.
func checkPace(t *testing.T, m api.Meter, sizes []int, want int) {
	t.Helper()
	wantTimes, wantFault := pace(m, sizes, want)
	times, fault := outlook.Pace(m, sizes, want)
	if !slices.Equal(times, wantTimes) || fault != wantFault {
		t.Fatalf("Pace(%v, %d, %d) = %d, %v, not %d, %v", m, sizes, want, times, fault, wantTimes, wantFault)
	}
	l := make([]api.Sample, len(times))
	for i, at := range times {
		l[i] = api.Sample{Time: at, Size: sizes[i]}
	}
	colours, _ := meter.Run(m, l, nil)
	if at := slices.IndexFunc(colours, func(c int) bool { return c > want }); at >= 0 || !slices.IsSorted(times) {
		t.Fatalf("Pace(%v, %d, %d) = %d: the packets are of %d", m, sizes, want, times, colours)
	}
}

// levels are levels of a meter: empty, full, at the edges of words and near a rim, below and above it, with a time seen and without.
func levels(m api.Meter) []api.Level {
	var l []api.Level
	inside := func(burst uint64) []uint64 {
		rim := burst * nano
		return []uint64{0, rim / 2, rim - min(rim, 1), rim, rim + 1, most}
	}
	for _, in := range inside(m.Burst) {
		for _, also := range inside(m.Extra) {
			for _, last := range []uint64{0, 7, most - 5*nano, most} {
				l = append(l, seen(in, also, last), api.Level{One: in, Two: also, Last: last})
			}
		}
	}
	return l
}

// P30.1

func TestWhenOfExamples(t *testing.T) {
	single, double := one(false, 1000, 1500, 1000), two(false, 1000, 2000, 1000, 1500)
	half := seen(500*nano, 500*nano, 7)
	cases := []struct {
		m          api.Meter
		s          api.Level
		size, want int
		at         uint64
		ok         bool
	}{
		{single, half, 1000, api.Green, 500000007, true},
		{single, half, 1000, api.Yellow, 500000007, true},
		{single, half, 1000, api.Red, 7, true},
		// The second bucket has its bytes ahead of the first one only where this is full sooner.
		{single, seen(1400*nano, 900*nano, 7), 1000, api.Yellow, 7, true},
		{single, seen(1400*nano, 900*nano, 7), 1500, api.Yellow, 100000007, true},
		{one(false, 1000, 800, 1000), seen(700*nano, 900*nano, 7), 1000, api.Yellow, 200000007, true},
		{one(false, 1000, 800, 1000), seen(800*nano, 900*nano, 7), 1000, api.Yellow, 100000007, true},
		{one(false, 1000, 800, 1000), seen(900*nano, 900*nano, 7), 1000, api.Yellow, 100000007, true},
		{one(false, 1000, 800, 1000), seen(0, 0, 7), 1000, api.Yellow, 1800000007, true},
		{one(false, 1000, 800, 1000), seen(0, 0, 7), 1000, api.Green, 0, false},
		{one(false, 1000, 800, 1000), seen(0, 1000*nano, 7), 1000, api.Yellow, 7, true},
		{one(false, 1000, 0, 1000), seen(0, 0, 7), 1000, api.Yellow, 1000000007, true},
		{one(false, 1000, 0, 1000), seen(0, 0, 7), 1001, api.Yellow, 0, false},
		{one(false, 1000, 0, 1000), seen(0, 0, 7), 1001, api.Red, 7, true},
		{one(false, 1000, 800, 0), seen(0, 0, 7), 800, api.Yellow, 800000007, true},
		{one(false, 1000, 800, 0), seen(0, 0, 7), 801, api.Yellow, 0, false},
		{one(false, 0, 800, 1000), half, 500, api.Green, 7, true},
		{one(false, 0, 800, 1000), half, 501, api.Green, 0, false},
		{one(false, 0, 800, 1000), half, 501, api.Yellow, 0, false},
		{one(false, 0, 800, 1000), half, 501, api.Red, 7, true},
		{one(false, 3, 800, 1000), seen(0, 0, 7), 1, api.Green, 333333341, true},
		// Packets of no bytes are green at once.
		{single, seen(0, 0, 7), 0, api.Green, 7, true},
		{double, seen(0, 0, 7), 0, api.Green, 7, true},
		{double, half, 1000, api.Green, 500000007, true},
		{double, half, 1000, api.Yellow, 250000007, true},
		{double, half, 1000, api.Red, 7, true},
		{double, seen(1000*nano, 0, 7), 1000, api.Green, 500000007, true},
		{double, half, 1001, api.Green, 0, false},
		{double, half, 1500, api.Yellow, 500000007, true},
		{double, half, 1501, api.Yellow, 0, false},
		{double, half, 1501, api.Red, 7, true},
		{two(false, 0, 2000, 1000, 1500), half, 501, api.Green, 0, false},
		{two(false, 0, 2000, 1000, 1500), half, 501, api.Yellow, 500007, true},
		{two(false, 0, 0, 1000, 1500), half, 501, api.Yellow, 0, false},
		{two(false, 0, 0, 1000, 1500), half, 500, api.Green, 7, true},
		// A meter that heeds previous colours is asked for green packets.
		{one(true, 1000, 1500, 1000), half, 1000, api.Green, 500000007, true},
		{two(true, 1000, 2000, 1000, 1500), half, 1000, api.Yellow, 250000007, true},
		// As long as no time is seen, none goes by.
		{single, api.Level{One: 500 * nano, Two: 500 * nano, Last: 7}, 500, api.Green, 0, true},
		{single, api.Level{One: 500 * nano, Two: 500 * nano, Last: 7}, 501, api.Green, 0, false},
		{single, api.Level{One: 500 * nano, Two: 500 * nano, Last: 7}, 501, api.Yellow, 0, false},
		{single, api.Level{One: 500 * nano, Two: 500 * nano, Last: 7}, 501, api.Red, 0, true},
		{double, api.Level{One: 500 * nano, Two: 500 * nano, Last: 7}, 501, api.Yellow, 0, false},
		{double, api.Level{One: 400 * nano, Two: 500 * nano, Last: 7}, 500, api.Yellow, 0, true},
		// The last time is the last one at which a packet may come.
		{single, seen(0, 0, most-nano), 1000, api.Green, most, true},
		{single, seen(0, 0, most-nano+1), 1000, api.Green, 0, false},
		{double, seen(0, 0, most-nano), 1000, api.Green, most, true},
		{double, seen(0, 0, most-nano+1), 1000, api.Green, 0, false},
		{single, seen(0, 0, most), 0, api.Green, most, true},
		{single, seen(0, 0, most), 1, api.Yellow, 0, false},
		{single, seen(0, 0, most), 1, api.Red, most, true},
		// Above its rim a bucket has what a full one never has.
		{single, seen(1600*nano, 0, 7), 1600, api.Green, 7, true},
		{single, seen(1600*nano, 0, 7), 1601, api.Green, 0, false},
		{double, seen(1100*nano, 0, 7), 1100, api.Green, 550000007, true},
		{double, seen(0, 1600*nano, 7), 1600, api.Yellow, 7, true},
		// The longest wait of the slowest meter.
		{one(false, 1, api.MaxBurst, api.MaxBurst), seen(0, 0, 0), api.MaxBurst, api.Green, api.MaxBurst * nano, true},
		{one(false, 1, api.MaxBurst, api.MaxBurst), seen(0, api.MaxBurst*nano-1, 0), api.MaxBurst, api.Yellow, api.MaxBurst * nano, true},
		{one(false, 1, api.MaxBurst-1, api.MaxBurst), seen(0, 0, 0), api.MaxBurst, api.Yellow, (2*api.MaxBurst - 1) * nano, true},
	}
	for i, c := range cases {
		if at, ok := outlook.When(c.m, c.s, c.size, c.want); at != c.at || ok != c.ok {
			t.Errorf("When %d = %d, %t, not %d, %t", i, at, ok, c.at, c.ok)
		}
		checkWhen(t, c.m, c.s, c.size, c.want)
	}
}

// meters are valid meters of both kinds, at the edges.
func meters() []api.Meter {
	var l []api.Meter
	for _, aware := range []bool{false, true} {
		l = append(l, one(aware, 0, 1, 1), one(aware, 1, 0, 5), one(aware, 1, 5, 0), one(aware, 1000, 1500, 1000), one(aware, api.MaxRate, api.MaxBurst, api.MaxBurst), one(aware, 1, api.MaxBurst, api.MaxBurst), one(aware, 3, api.MaxBurst, 7))
		l = append(l, two(aware, 0, 0, 1, 1), two(aware, 0, 3, 2, 5), two(aware, 3, 3, 5, 2), two(aware, 1000, 2000, 1000, 1500), two(aware, 1000, 2000, 1500, 1000), two(aware, api.MaxRate, api.MaxRate, api.MaxBurst, api.MaxBurst), two(aware, 1, 7, api.MaxBurst, api.MaxBurst), two(aware, 1, api.MaxRate, 3, api.MaxBurst))
	}
	return l
}

func TestWhenAtEdges(t *testing.T) {
	for _, m := range meters() {
		sizes := []int{0, 1, int(m.Burst), int(m.Burst) + 1, int(m.Extra), int(m.Extra) + 1, most / nano, most/nano + 1, math.MaxInt}
		for _, s := range levels(m) {
			for _, size := range sizes {
				for _, want := range []int{api.Green, api.Yellow, api.Red} {
					checkWhen(t, m, s, size, want)
				}
			}
		}
	}
}

func TestWhenOfWrong(t *testing.T) {
	s := seen(5*nano, 5*nano, 7)
	for _, m := range append(invalid(), meters()...) {
		valid := meter.Check(m) == api.OK
		for _, size := range []int{-1, math.MinInt, 0, 1} {
			for _, want := range []int{-1, 3, 255, math.MinInt, math.MaxInt, api.Green, api.Yellow, api.Red} {
				right := valid && size >= 0 && 0 <= want && want <= 2
				if at, ok := outlook.When(m, s, size, want); !right && (at != 0 || ok) {
					t.Errorf("When(%v, %v, %d, %d) = %d, %t", m, s, size, want, at, ok)
				}
				checkWhen(t, m, s, size, want)
			}
		}
	}
}

// In little numbers, each time from the last one on is tried, one by one.
func TestWhenOneByOne(t *testing.T) {
	draw := rand.New(rand.NewSource(301))
	for range 20000 {
		m := drawn(draw, 40, 3)
		m.Rate, m.Peak = nano/4+m.Rate%nano, 0
		if m.Kind == api.Double {
			m.Peak = m.Rate + number(draw, 30)
		}
		s := seen(number(draw, 33), number(draw, 33), number(draw, 20))
		size, want := draw.Intn(10), draw.Intn(2)
		at, ok := outlook.When(m, s, size, want)
		var tried uint64
		for tried = s.Last; tried < s.Last+200; tried++ {
			if _, colour := meter.Step(m, s, tried, size, api.Green); colour <= want {
				break
			}
		}
		if found := tried < s.Last+200; found != ok || found && tried != at {
			t.Fatalf("When(%v, %v, %d, %d) = %d, %t: found %d, %t", m, s, size, want, at, ok, tried, found)
		}
	}
}

// number tells a number of any length up to so many bits.
func number(draw *rand.Rand, bits int) uint64 {
	return draw.Uint64() >> (64 - bits) >> draw.Intn(bits)
}

// drawn tells a valid meter of either kind, with numbers of so many bits.
func drawn(draw *rand.Rand, rateBits, burstBits int) api.Meter {
	aware, a, b := draw.Intn(2) == 0, number(draw, rateBits), number(draw, rateBits)
	burst, extra := number(draw, burstBits), number(draw, burstBits)
	if draw.Intn(2) == 0 {
		return two(aware, min(a, b), max(a, b), burst+1, extra+1)
	}
	if burst == 0 && extra == 0 {
		burst = 1
	}
	return one(aware, a, burst, extra)
}

// level tells a level, mostly below a meter's rims.
func level(draw *rand.Rand, m api.Meter) api.Level {
	s := api.Level{One: draw.Uint64() % (m.Burst*nano + 1), Two: draw.Uint64() % (m.Extra*nano + 1), Last: draw.Uint64() >> draw.Intn(64), Seen: draw.Intn(8) > 0}
	switch draw.Intn(12) {
	case 0:
		s.One = draw.Uint64() >> draw.Intn(64)
	case 1:
		s.Two = draw.Uint64() >> draw.Intn(64)
	case 2:
		s.Last = most - number(draw, 40)
	}
	return s
}

func TestDrawn(t *testing.T) {
	draw := rand.New(rand.NewSource(302))
	found, late := 0, 0
	for range 100000 {
		m := drawn(draw, 1+draw.Intn(40), 1+draw.Intn(32))
		s := level(draw, m)
		size := draw.Intn(2 + int(max(m.Burst, m.Extra)))
		want := draw.Intn(3)
		if draw.Intn(20) == 0 {
			size = []int{-1, math.MaxInt, math.MinInt, 0}[draw.Intn(4)]
			want = draw.Intn(5) - 1
		}
		checkWhen(t, m, s, size, want)
		checkIdle(t, m, s)
		if at, ok := outlook.When(m, s, size, want); ok {
			found++
			if at > s.Last {
				late++
			}
		}
	}
	if found < 30000 || late < 10000 {
		t.Errorf("only %d have a time, %d behind the last one", found, late)
	}
}

// P30.2

func TestPaceOfExamples(t *testing.T) {
	single, double := one(false, 1000, 1500, 1000), two(false, 1000, 2000, 1000, 1500)
	cases := []struct {
		m     api.Meter
		sizes []int
		want  int
		times []uint64
		fault api.Fault
	}{
		{single, []int{1000, 1000, 1500}, api.Green, []uint64{0, nano / 2, 2 * nano}, api.Fault{}},
		{single, []int{1000, 1000, 500, 1}, api.Yellow, []uint64{0, 0, 0, nano / 1000}, api.Fault{}},
		{single, []int{1000, 1000, 1000000, 1}, api.Red, []uint64{0, 0, 0, 0}, api.Fault{}},
		{double, []int{800, 700, 1}, api.Green, []uint64{0, nano / 2, nano/2 + nano/1000}, api.Fault{}},
		{double, []int{800, 700, 1}, api.Yellow, []uint64{0, 0, nano / 2000}, api.Fault{}},
		{double, []int{800, 700, 1}, api.Red, []uint64{0, 0, 0}, api.Fault{}},
		{single, nil, api.Green, nil, api.Fault{}},
		{single, []int{}, api.Red, nil, api.Fault{}},
		// A packet that no full bucket holds has no time, and neither has one behind an empty bucket that does not fill.
		{single, []int{1501}, api.Green, nil, api.Fault{Errno: api.ErrNone, At: 0}},
		{single, []int{1500, 1501, 1}, api.Green, nil, api.Fault{Errno: api.ErrNone, At: 1}},
		{single, []int{1500, 1501, 1}, api.Yellow, nil, api.Fault{Errno: api.ErrNone, At: 1}},
		{single, []int{1500, 1500, 1501}, api.Yellow, nil, api.Fault{Errno: api.ErrNone, At: 2}},
		{single, []int{1500, 1501, -1}, api.Red, nil, api.Fault{Errno: api.ErrNone, At: 2}},
		{single, []int{-1, 1501}, api.Green, nil, api.Fault{Errno: api.ErrNone, At: 0}},
		{one(false, 0, 30, 30), []int{20, 10, 0, 1}, api.Green, nil, api.Fault{Errno: api.ErrNone, At: 3}},
		{one(false, 0, 30, 30), []int{20, 20, 10, 10}, api.Yellow, []uint64{0, 0, 0, 0}, api.Fault{}},
		{one(false, 1, api.MaxBurst, 0), []int{api.MaxBurst, api.MaxBurst, api.MaxBurst, api.MaxBurst, api.MaxBurst}, api.Green, []uint64{0, api.MaxBurst * nano, 2 * api.MaxBurst * nano, 3 * api.MaxBurst * nano, 4 * api.MaxBurst * nano}, api.Fault{}},
		{one(false, 1, api.MaxBurst, 0), []int{api.MaxBurst, api.MaxBurst, api.MaxBurst, api.MaxBurst, api.MaxBurst, api.MaxBurst}, api.Green, nil, api.Fault{Errno: api.ErrNone, At: 5}},
		{single, []int{1}, 3, nil, api.Fault{Errno: api.ErrColour}},
		{single, []int{-1}, -1, nil, api.Fault{Errno: api.ErrColour}},
		{single, nil, math.MaxInt, nil, api.Fault{Errno: api.ErrColour}},
		{api.Meter{}, []int{-1}, 3, nil, api.Fault{Errno: api.ErrKind}},
		{one(false, 1, api.MaxBurst+1, 1), nil, api.Green, nil, api.Fault{Errno: api.ErrBurst}},
		{two(false, 2, 1, 1, 1), []int{1}, api.Green, nil, api.Fault{Errno: api.ErrRate}},
	}
	for i, c := range cases {
		if times, fault := outlook.Pace(c.m, c.sizes, c.want); !slices.Equal(times, c.times) || fault != c.fault {
			t.Errorf("Pace %d = %d, %v, not %d, %v", i, times, fault, c.times, c.fault)
		}
		checkPace(t, c.m, c.sizes, c.want)
	}
}

func TestPace(t *testing.T) {
	draw := rand.New(rand.NewSource(303))
	found := 0
	for range 10000 {
		m := drawn(draw, 1+draw.Intn(40), 1+draw.Intn(32))
		sizes := make([]int, draw.Intn(12))
		for i := range sizes {
			sizes[i] = draw.Intn(1 + int(max(m.Burst, m.Extra)))
		}
		if draw.Intn(20) == 0 && len(sizes) > 0 {
			sizes[draw.Intn(len(sizes))] = []int{-1, math.MaxInt, math.MinInt}[draw.Intn(3)]
		}
		want := draw.Intn(3)
		checkPace(t, m, sizes, want)
		if times, _ := outlook.Pace(m, sizes, want); len(times) > 3 && times[3] > 0 {
			found++
		}
	}
	if found < 500 {
		t.Errorf("only %d have a pace that waits", found)
	}
}

func TestPaceOfWrong(t *testing.T) {
	for _, m := range append(invalid(), meters()...) {
		for _, sizes := range [][]int{nil, {1}, {-1}, {1, 1, -1}, {math.MinInt}} {
			for _, want := range []int{-1, 3, math.MinInt, math.MaxInt, api.Green, api.Yellow, api.Red} {
				checkPace(t, m, sizes, want)
			}
		}
	}
}

// P30.3

func TestIdleOfExamples(t *testing.T) {
	single, double := one(false, 1000, 1500, 1000), two(false, 1000, 2000, 1000, 1500)
	cases := []struct {
		m  api.Meter
		s  api.Level
		at uint64
		ok bool
	}{
		{single, seen(500*nano, 500*nano, 7), 1500000007, true},
		{single, seen(1500*nano, 500*nano, 7), 500000007, true},
		{single, seen(1600*nano, 500*nano, 7), 500000007, true},
		{single, seen(500*nano, 1000*nano, 7), 1000000007, true},
		{single, seen(500*nano, most, 7), 1000000007, true},
		{single, seen(1500*nano, 1000*nano, 7), 7, true},
		{single, seen(most, most, 7), 7, true},
		{single, seen(1500*nano, 1000*nano-1, 7), 8, true},
		{single, seen(1500*nano-1, 1000*nano, 7), 8, true},
		{single, seen(0, 0, most-2500000000), most, true},
		{single, seen(0, 0, most-2499999999), 0, false},
		{one(true, 0, 5, 0), seen(5*nano, 0, 7), 7, true},
		{one(true, 0, 5, 0), seen(5*nano-1, 0, 7), 0, false},
		{one(true, 0, 5, 1), seen(5*nano, 0, 7), 0, false},
		{one(true, 3, 0, 1), seen(0, 0, 7), 333333341, true},
		{double, seen(500*nano, 500*nano, 7), 500000007, true},
		{double, seen(0, 500*nano, 7), 1000000007, true},
		{double, seen(1000*nano, 0, 7), 750000007, true},
		{double, seen(1000*nano, 1500*nano, most), most, true},
		{double, seen(1000*nano, 1500*nano-1, most), 0, false},
		{two(false, 0, 1, 1, 1), seen(nano, 0, 7), 1000000007, true},
		{two(false, 0, 1, 1, 1), seen(nano-1, 0, 7), 0, false},
		// As long as no time is seen, none goes by.
		{single, api.Level{One: 1500 * nano, Two: 1000 * nano, Last: 7}, 0, true},
		{single, api.Level{One: 1500 * nano, Two: 1000*nano - 1, Last: 7}, 0, false},
		{single, api.Level{One: 1500*nano - 1, Two: 1000 * nano, Last: 7}, 0, false},
		{double, api.Level{One: most, Two: most, Last: most}, 0, true},
		{double, api.Level{One: most, Two: 0}, 0, false},
		{one(false, 1, api.MaxBurst, api.MaxBurst), seen(0, 0, 0), 2 * api.MaxBurst * nano, true},
		{api.Meter{}, seen(most, most, 7), 0, false},
	}
	for i, c := range cases {
		if at, ok := outlook.Idle(c.m, c.s); at != c.at || ok != c.ok {
			t.Errorf("Idle %d = %d, %t, not %d, %t", i, at, ok, c.at, c.ok)
		}
		checkIdle(t, c.m, c.s)
	}
}

func TestIdleAtEdges(t *testing.T) {
	for _, m := range append(meters(), invalid()...) {
		for _, s := range levels(m) {
			checkIdle(t, m, s)
		}
	}
	for _, m := range invalid() {
		if at, ok := outlook.Idle(m, seen(most, most, 7)); at != 0 || ok {
			t.Errorf("Idle(%v, ..) = %d, %t", m, at, ok)
		}
	}
}

// What fills at a billionth of a byte or more each time is full one by one, too.
func TestIdleOneByOne(t *testing.T) {
	draw := rand.New(rand.NewSource(304))
	for range 20000 {
		m := drawn(draw, 40, 3)
		m.Rate, m.Peak = nano/4+m.Rate%nano, 0
		if m.Kind == api.Double {
			m.Peak = m.Rate + number(draw, 30)
		}
		s := seen(number(draw, 33), number(draw, 33), number(draw, 20))
		at, ok := outlook.Idle(m, s)
		for tried := s.Last; tried <= at; tried++ {
			now, _ := meter.Step(m, s, tried, 0, api.Green)
			if !ok || full(m, now) != (tried == at) {
				t.Fatalf("Idle(%v, %v) = %d, %t: %v at %d", m, s, at, ok, now, tried)
			}
		}
	}
}

// P3, P5

func TestArgumentsStay(t *testing.T) {
	draw := rand.New(rand.NewSource(305))
	for range 2000 {
		m := drawn(draw, 20, 10)
		sizes := make([]int, draw.Intn(8))
		for i := range sizes {
			sizes[i] = int(number(draw, 9))
		}
		// What is behind the end has no time.
		given := append(slices.Clone(sizes), -1, -1)[:len(sizes)]
		before := slices.Clone(given[:cap(given)])
		times, fault := outlook.Pace(m, given, api.Yellow)
		want, wantFault := outlook.Pace(m, sizes, api.Yellow)
		if !slices.Equal(times, want) || fault != wantFault || !slices.Equal(given[:cap(given)], before) {
			t.Fatalf("Pace(%v, %d, 1) = %d, %v, not %d, %v", m, sizes, times, fault, want, wantFault)
		}
	}
}
