package single_test

import (
	"math"
	"math/big"
	"math/rand"
	"testing"

	"weighbridge/api"
	"weighbridge/single"
)

const (
	// most is the greatest number of a word.
	most = math.MaxUint64
	// nano is what a byte takes.
	nano = 1000000000
)

// made tells a meter of one rate.
func made(aware bool, rate, burst, extra uint64) api.Meter {
	return api.Meter{Kind: api.Single, Aware: aware, Rate: rate, Burst: burst, Extra: extra}
}

// valid are meters at all edges.
func valid() []api.Meter {
	var l []api.Meter
	for _, aware := range []bool{false, true} {
		for _, rate := range []uint64{0, 1, 1000, api.MaxRate - 1, api.MaxRate} {
			for _, burst := range []uint64{0, 1, 30, 1500, api.MaxBurst - 1, api.MaxBurst} {
				for _, extra := range []uint64{0, 1, 1000, api.MaxBurst} {
					if burst > 0 || extra > 0 {
						l = append(l, made(aware, rate, burst, extra))
					}
				}
			}
		}
	}
	return l
}

// wrong is a meter that is not valid, and its error.
type wrong struct {
	m api.Meter
	e api.Errno
}

// invalid are such meters: alone, and with what is named later wrong, too.
func invalid() []wrong {
	with := func(change func(m *api.Meter)) api.Meter {
		m := made(true, 1000, 1500, 1000)
		change(&m)
		return m
	}
	return []wrong{
		{api.Meter{}, api.ErrKind},
		{with(func(m *api.Meter) { m.Kind = 0 }), api.ErrKind},
		{with(func(m *api.Meter) { m.Kind = api.Double }), api.ErrKind},
		{with(func(m *api.Meter) { m.Kind, m.Peak = api.Double, 2000 }), api.ErrKind},
		{with(func(m *api.Meter) { m.Kind = 3 }), api.ErrKind},
		{with(func(m *api.Meter) { m.Kind = -1 }), api.ErrKind},
		{with(func(m *api.Meter) { m.Kind = math.MinInt }), api.ErrKind},
		{with(func(m *api.Meter) { m.Kind = math.MaxInt }), api.ErrKind},
		{with(func(m *api.Meter) { m.Kind, m.Rate, m.Burst = 0, most, most }), api.ErrKind},
		{with(func(m *api.Meter) { m.Rate = api.MaxRate + 1 }), api.ErrRate},
		{with(func(m *api.Meter) { m.Rate = 1 << 63 }), api.ErrRate},
		{with(func(m *api.Meter) { m.Rate = most }), api.ErrRate},
		{with(func(m *api.Meter) { m.Peak = 1 }), api.ErrRate},
		{with(func(m *api.Meter) { m.Peak = 1000 }), api.ErrRate},
		{with(func(m *api.Meter) { m.Peak = most }), api.ErrRate},
		{with(func(m *api.Meter) { m.Peak, m.Burst = 1, api.MaxBurst+1 }), api.ErrRate},
		{with(func(m *api.Meter) { m.Rate, m.Burst, m.Extra = api.MaxRate+1, 0, 0 }), api.ErrRate},
		{with(func(m *api.Meter) { m.Burst = api.MaxBurst + 1 }), api.ErrBurst},
		{with(func(m *api.Meter) { m.Extra = api.MaxBurst + 1 }), api.ErrBurst},
		{with(func(m *api.Meter) { m.Burst, m.Extra = api.MaxBurst+1, 0 }), api.ErrBurst},
		{with(func(m *api.Meter) { m.Burst, m.Extra = 0, api.MaxBurst+1 }), api.ErrBurst},
		{with(func(m *api.Meter) { m.Burst = most }), api.ErrBurst},
		{with(func(m *api.Meter) { m.Extra = most }), api.ErrBurst},
		// The sum of both goes round to less than the most.
		{with(func(m *api.Meter) { m.Burst, m.Extra = 1<<63, 1<<63 }), api.ErrBurst},
		{with(func(m *api.Meter) { m.Burst, m.Extra = 0, 0 }), api.ErrBurst},
		{with(func(m *api.Meter) { m.Rate, m.Burst, m.Extra = 0, 0, 0 }), api.ErrBurst},
	}
}

// P26.1

func TestCheck(t *testing.T) {
	for _, m := range valid() {
		if e := single.Check(m); e != api.OK {
			t.Errorf("Check(%v) = %d", m, e)
		}
	}
	for _, w := range invalid() {
		if e := single.Check(w.m); e != w.e {
			t.Errorf("Check(%v) = %d, not %d", w.m, e, w.e)
		}
	}
}

// P26.2

func TestNew(t *testing.T) {
	for _, m := range valid() {
		if s, e := single.New(m); s != (api.Level{One: nano * m.Burst, Two: nano * m.Extra}) || e != api.OK {
			t.Errorf("New(%v) = %v, %d", m, s, e)
		}
	}
	for _, w := range invalid() {
		if s, e := single.New(w.m); s != (api.Level{}) || e != w.e {
			t.Errorf("New(%v) = %v, %d, not %d", w.m, s, e, w.e)
		}
	}
}

// P26.3

// word tells a number as one of the library's.
func word(n uint64) *big.Int {
	return new(big.Int).SetUint64(n)
}

// fill adds to a bucket what it has room for, and leaves the rest of what is added.
func fill(level uint64, gain *big.Int, rim uint64) uint64 {
	if level >= rim {
		return level
	}
	room := word(rim - level)
	if gain.Cmp(room) < 0 {
		room.Set(gain)
	}
	gain.Sub(gain, room)
	return level + room.Uint64()
}

// stepped tells what Step is to tell of a valid meter and a size that is not negative.
func stepped(m api.Meter, s api.Level, t uint64, size, pre int) (api.Level, int) {
	elapsed := uint64(0)
	if s.Seen && t > s.Last {
		elapsed = t - s.Last
	}
	if !s.Seen || t > s.Last {
		s.Last = t
	}
	s.Seen = true
	gain := new(big.Int).Mul(word(m.Rate), word(elapsed))
	s.One = fill(s.One, gain, nano*m.Burst)
	s.Two = fill(s.Two, gain, nano*m.Extra)
	need := new(big.Int).Mul(big.NewInt(int64(size)), big.NewInt(nano))
	mayBeGreen := !m.Aware || pre == api.Green
	if mayBeGreen && need.Cmp(word(s.One)) <= 0 {
		s.One -= need.Uint64()
		return s, api.Green
	}
	if (mayBeGreen || pre == api.Yellow) && need.Cmp(word(s.Two)) <= 0 {
		s.Two -= need.Uint64()
		return s, api.Yellow
	}
	return s, api.Red
}

// checkStep holds Step to what it is to tell.
func checkStep(t *testing.T, m api.Meter, s api.Level, at uint64, size, pre int) {
	t.Helper()
	want, wantColour := s, api.Red
	if size >= 0 {
		want, wantColour = stepped(m, s, at, size, pre)
	}
	if got, colour := single.Step(m, s, at, size, pre); got != want || colour != wantColour {
		t.Fatalf("Step(%v, %v, %d, %d, %d) = %v, %d, not %v, %d", m, s, at, size, pre, got, colour, want, wantColour)
	}
}

// pres are previous colours, and numbers that are none.
func pres() []int {
	return []int{api.Green, api.Yellow, api.Red, 3, 4, -1, 255, math.MinInt, math.MaxInt}
}

func TestStepOfTheExample(t *testing.T) {
	m := made(false, 1000, 1500, 1000)
	s, _ := single.New(m)
	steps := []struct {
		t      uint64
		size   int
		want   api.Level
		colour int
	}{
		{5, 1000, api.Level{One: 500 * nano, Two: 1000 * nano, Last: 5, Seen: true}, api.Green},
		{5, 1000, api.Level{One: 500 * nano, Two: 0, Last: 5, Seen: true}, api.Yellow},
		{5 + nano, 1500, api.Level{One: 0, Two: 0, Last: 5 + nano, Seen: true}, api.Green},
		{5 + nano, 1, api.Level{One: 0, Two: 0, Last: 5 + nano, Seen: true}, api.Red},
		{5 + nano, 0, api.Level{One: 0, Two: 0, Last: 5 + nano, Seen: true}, api.Green},
		// A time that goes back is no time.
		{0, 1, api.Level{One: 0, Two: 0, Last: 5 + nano, Seen: true}, api.Red},
		{6 + nano, 1, api.Level{One: 1000, Two: 0, Last: 6 + nano, Seen: true}, api.Red},
		// The first bucket is full after a second and a half; of the third half half goes to the second one.
		{5 + 3*nano, 1500, api.Level{One: 0, Two: 500 * nano, Last: 5 + 3*nano, Seen: true}, api.Green},
		{5 + 3*nano, 501, api.Level{One: 0, Two: 500 * nano, Last: 5 + 3*nano, Seen: true}, api.Red},
		{5 + 3*nano, 500, api.Level{One: 0, Two: 0, Last: 5 + 3*nano, Seen: true}, api.Yellow},
		{most, 1501, api.Level{One: 1500 * nano, Two: 1000 * nano, Last: most, Seen: true}, api.Red},
	}
	for i, step := range steps {
		var colour int
		if s, colour = single.Step(m, s, step.t, step.size, api.Green); s != step.want || colour != step.colour {
			t.Fatalf("step %d comes to %v, %d, not %v, %d", i, s, colour, step.want, step.colour)
		}
	}
}

// What the document's third and fourth example tell: three packets of 26 bytes, at one time and at times that go back.
func TestStepOfThreePackets(t *testing.T) {
	for _, times := range [][3]uint64{{0, 0, 0}, {9, 9, 9}, {9, 3, 1}, {most, 0, most}} {
		m := made(false, 1000, 30, 30)
		s, _ := single.New(m)
		for want, at := range times {
			var colour int
			if s, colour = single.Step(m, s, at, 26, api.Green); colour != want || s.Last != times[0] {
				t.Errorf("packet %d at %d: %v, %d", want, at, s, colour)
			}
		}
	}
}

// A meter without one of its buckets still has the other one.
func TestStepOfOneBucket(t *testing.T) {
	for _, c := range []struct {
		m    api.Meter
		want int
	}{{made(false, 1000, 0, 100), api.Yellow}, {made(false, 1000, 100, 0), api.Green}} {
		s, _ := single.New(c.m)
		for i := range uint64(10) {
			// Each tenth of a second brings a hundred bytes: to the second bucket, too, if the first has no room for them.
			var colour int
			if s, colour = single.Step(c.m, s, i*nano/10, 100, api.Green); colour != c.want || s.One != 0 || s.Two != 0 {
				t.Errorf("%v: packet %d: %v, %d", c.m, i, s, colour)
			}
			if s, colour = single.Step(c.m, s, i*nano/10, 1, api.Green); colour != api.Red || s.One != 0 || s.Two != 0 {
				t.Errorf("%v: packet beyond %d: %v, %d", c.m, i, s, colour)
			}
		}
	}
}

// Each previous colour at buckets that have enough, or one of them, or none; the expected colours are of Green, Yellow, and Red and all other numbers.
func TestStepOfPreviousColours(t *testing.T) {
	cases := []struct {
		one, two uint64
		want     [3]int
	}{
		{100, 100, [3]int{api.Green, api.Yellow, api.Red}}, {100, 99, [3]int{api.Green, api.Red, api.Red}}, {99, 100, [3]int{api.Yellow, api.Yellow, api.Red}}, {99, 99, [3]int{api.Red, api.Red, api.Red}},
	}
	for _, c := range cases {
		for _, pre := range pres() {
			for _, aware := range []bool{true, false} {
				column := api.Green
				if aware && (pre < api.Green || pre > api.Yellow) {
					column = api.Red
				} else if aware {
					column = pre
				}
				before := api.Level{One: c.one * nano, Two: c.two * nano, Last: 7, Seen: true}
				want := before
				switch c.want[column] {
				case api.Green:
					want.One = 0
				case api.Yellow:
					want.Two = 0
				}
				if s, colour := single.Step(made(aware, 1000, 1500, 1000), before, 7, 100, pre); s != want || colour != c.want[column] {
					t.Errorf("%v, aware %v, with %d before: %v, %d", before, aware, pre, s, colour)
				}
			}
		}
	}
}

// Nothing changes where a meter is not valid or a size is negative, not even the time.
func TestStepOfWrongInputs(t *testing.T) {
	levels := []api.Level{{}, {One: 5, Two: 6, Last: 7, Seen: true}, {One: most, Two: most, Last: most}, {One: most, Two: 1, Last: 0, Seen: true}}
	for _, s := range levels {
		for _, at := range []uint64{0, 8, most} {
			for _, pre := range pres() {
				for _, w := range invalid() {
					if got, colour := single.Step(w.m, s, at, 1, pre); got != s || colour != api.Red {
						t.Errorf("Step(%v, %v, %d, 1, %d) = %v, %d", w.m, s, at, pre, got, colour)
					}
				}
				for _, size := range []int{-1, -2, -18446744074, -1 << 55, math.MinInt} {
					if got, colour := single.Step(made(false, 1000, 1500, 1000), s, at, size, pre); got != s || colour != api.Red {
						t.Errorf("Step(.., %v, %d, %d, %d) = %v, %d", s, at, size, pre, got, colour)
					}
				}
			}
		}
	}
}

// A size that is more than any bucket holds is red, but its time is seen.
func TestStepOfGreatSizes(t *testing.T) {
	m := made(false, api.MaxRate, api.MaxBurst, api.MaxBurst)
	for _, size := range []int{api.MaxBurst + 1, 18446744073, 18446744074, 1 << 55, 1<<55 + 1, 1 << 62, math.MaxInt} {
		s, colour := single.Step(m, api.Level{Last: 3, Seen: true}, most, size, api.Green)
		if s != (api.Level{One: nano * api.MaxBurst, Two: nano * api.MaxBurst, Last: most, Seen: true}) || colour != api.Red {
			t.Errorf("a size of %d: %v, %d", size, s, colour)
		}
	}
}

func TestStepAtTheEdges(t *testing.T) {
	words := []uint64{0, 1, nano - 1, nano, 1500*nano - 1, 1500 * nano, api.MaxBurst * nano, most}
	times := []uint64{0, 1, nano, most - 1, most}
	for _, m := range valid() {
		for _, one := range words {
			for _, two := range words {
				for _, last := range times {
					for _, at := range times {
						for _, size := range []int{-1, 0, 1, 1500, math.MaxInt} {
							s := api.Level{One: one, Two: two, Last: last, Seen: (one+two+at)%3 != 0}
							checkStep(t, m, s, at, size, api.Green)
							checkStep(t, m, s, at, size, api.Yellow)
						}
					}
				}
			}
		}
	}
}

// number tells a number of any length up to so many bits.
func number(draw *rand.Rand, bits int) uint64 {
	return draw.Uint64() >> (64 - bits) >> draw.Intn(bits)
}

// drawn tells a valid meter.
func drawn(draw *rand.Rand) api.Meter {
	m := made(draw.Intn(2) == 0, number(draw, 40), number(draw, 32), number(draw, 32))
	if m.Burst == 0 && m.Extra == 0 {
		m.Extra = 1
	}
	return m
}

// Levels of all kinds: below and above their rims, and such as lack just what the time brings.
func TestStepOfDrawn(t *testing.T) {
	draw := rand.New(rand.NewSource(261))
	for range 300000 {
		m := drawn(draw)
		s := api.Level{One: number(draw, 64), Two: number(draw, 64), Last: number(draw, 64), Seen: draw.Intn(4) > 0}
		at := number(draw, 64)
		if draw.Intn(2) == 0 {
			at = s.Last + number(draw, 30)
		}
		if draw.Intn(2) == 0 {
			s.One, s.Two = s.One%(nano*m.Burst+1), s.Two%(nano*m.Extra+1)
		}
		size := int(number(draw, 63))
		if draw.Intn(2) == 0 {
			size %= 70000
		}
		checkStep(t, m, s, at, size, pres()[draw.Intn(9)])
		// Just what is there is taken, and one byte more is not.
		there, _ := stepped(m, s, at, 0, api.Red)
		for _, level := range []uint64{there.One, there.Two} {
			checkStep(t, m, s, at, int(level/nano), draw.Intn(3))
			checkStep(t, m, s, at, int(level/nano)+1, draw.Intn(3))
		}
	}
}

// What comes just up to a rim, and by one billionth of a byte to both sides of it, of the first bucket and of both.
func TestStepAtTheRims(t *testing.T) {
	draw := rand.New(rand.NewSource(262))
	for range 50000 {
		m := drawn(draw)
		lackOne, lackTwo := number(draw, 32)%(nano*m.Burst+1), number(draw, 32)%(nano*m.Extra+1)
		s := api.Level{One: nano*m.Burst - lackOne, Two: nano*m.Extra - lackTwo, Last: draw.Uint64() >> 1, Seen: true}
		for _, lack := range []uint64{lackOne, lackOne + lackTwo} {
			for _, elapsed := range []uint64{lack, lack + 1, max(lack, 1) - 1} {
				m.Rate = 1
				checkStep(t, m, s, s.Last+elapsed, 0, api.Red)
			}
		}
	}
}

// P26.4

// checkKept holds a step of a level within its rims to what holds of every one of them.
func checkKept(t *testing.T, m api.Meter, before, s api.Level, size, pre, colour int) {
	t.Helper()
	if s.One > nano*m.Burst || s.Two > nano*m.Extra {
		t.Fatalf("%v exceeds a rim of %v", s, m)
	}
	if !s.Seen || before.Seen && s.Last < before.Last {
		t.Fatalf("time goes back from %v to %v", before, s)
	}
	if colour < api.Green || colour > api.Red || m.Aware && colour < min(max(pre, api.Green), api.Red) {
		t.Fatalf("a packet of color %d becomes %d", pre, colour)
	}
	if m.Aware && (pre < api.Green || pre > api.Red) && colour != api.Red {
		t.Fatalf("a packet of no color, %d, becomes %d", pre, colour)
	}
	// The same time without a packet tells what there was to take from.
	grown, _ := single.Step(m, before, s.Last, 0, api.Green)
	taken := [2]uint64{grown.One - s.One, grown.Two - s.Two}
	want := [2]uint64{}
	if colour != api.Red {
		want[colour] = nano * uint64(size)
	}
	if taken != want {
		t.Fatalf("a packet of %d bytes and color %d takes %d", size, colour, taken)
	}
}

func TestWhatHoldsOfEveryStep(t *testing.T) {
	draw := rand.New(rand.NewSource(263))
	var colours [3]int
	for range 2000 {
		m := made(draw.Intn(2) == 0, number(draw, 20), number(draw, 14), number(draw, 14)+1)
		s, _ := single.New(m)
		now := draw.Uint64() >> draw.Intn(64)
		for range 100 {
			before, size, pre := s, draw.Intn(1+int(m.Burst+m.Extra)), pres()[draw.Intn(9)]
			if draw.Intn(2) == 0 {
				pre = api.Green
			}
			// Now and then a time is any other one.
			at := now + number(draw, 30) - number(draw, 29)
			if draw.Intn(50) == 0 {
				at = draw.Uint64() >> 2
			}
			var colour int
			s, colour = single.Step(m, s, at, size, pre)
			checkKept(t, m, before, s, size, pre, colour)
			colours[colour]++
			now = at
		}
	}
	for colour, n := range colours {
		if n < 10000 {
			t.Errorf("%d packets have color %d", n, colour)
		}
	}
}

// Growing to a time in two steps comes to the same as in one: the overflow of the first bucket is lost nowhere.
func TestStepsOfNothing(t *testing.T) {
	draw := rand.New(rand.NewSource(264))
	for range 50000 {
		m := drawn(draw)
		s := api.Level{One: number(draw, 62) % (nano*m.Burst + 1), Two: number(draw, 62) % (nano*m.Extra + 1), Seen: true}
		first, second := number(draw, 40), number(draw, 40)
		half, _ := single.Step(m, s, first, 0, api.Red)
		got, _ := single.Step(m, half, first+second, 0, api.Red)
		if want, _ := single.Step(m, s, first+second, 0, api.Red); got != want {
			t.Fatalf("%v of %v comes to %v and %v", s, m, got, want)
		}
	}
}

// P5 of the general rules: a call answers the same whatever was called ahead of it.
func TestNothingIsKept(t *testing.T) {
	m := made(true, 1000, 1500, 1000)
	for range 3 {
		if e := single.Check(m); e != api.OK {
			t.Errorf("Check = %d", e)
		}
		if e := single.Check(api.Meter{}); e != api.ErrKind {
			t.Errorf("Check of nothing = %d", e)
		}
		s, e := single.New(m)
		if s != (api.Level{One: 1500 * nano, Two: 1000 * nano}) || e != api.OK {
			t.Errorf("New = %v, %d", s, e)
		}
		if next, colour := single.Step(m, s, 5, 1000, api.Yellow); next != (api.Level{One: 1500 * nano, Two: 0, Last: 5, Seen: true}) || colour != api.Yellow {
			t.Errorf("Step = %v, %d", next, colour)
		}
	}
}
