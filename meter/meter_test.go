package meter_test

import (
	"fmt"
	"math"
	"math/big"
	"math/rand"
	"regexp"
	"slices"
	"strconv"
	"strings"
	"testing"

	"weighbridge/almost"
	"weighbridge/api"
	"weighbridge/double"
	"weighbridge/meter"
	"weighbridge/ratchet"
	"weighbridge/single"
)

const (
	// most is the greatest number of a word.
	most = math.MaxUint64
	// nano is what a byte takes.
	nano = 1000000000
)

// one tells a meter of one rate.
func one(aware bool, rate, burst, extra uint64) api.Meter {
	return api.Meter{Kind: api.Single, Aware: aware, Rate: rate, Burst: burst, Extra: extra}
}

// two tells a meter of two rates.
func two(aware bool, rate, peak, burst, extra uint64) api.Meter {
	return api.Meter{Kind: api.Double, Aware: aware, Rate: rate, Peak: peak, Burst: burst, Extra: extra}
}

// valid are meters of both kinds, at all edges.
func valid() []api.Meter {
	var l []api.Meter
	rates := []uint64{0, 1, 1000, api.MaxRate - 1, api.MaxRate}
	bursts := []uint64{0, 1, 1500, api.MaxBurst - 1, api.MaxBurst}
	for _, aware := range []bool{false, true} {
		for i, rate := range rates {
			for _, burst := range bursts {
				for _, extra := range bursts {
					if burst > 0 || extra > 0 {
						l = append(l, one(aware, rate, burst, extra))
					}
					if burst > 0 && extra > 0 {
						for _, peak := range rates[i:] {
							l = append(l, two(aware, rate, peak, burst, extra))
						}
					}
				}
			}
		}
	}
	return l
}

// invalid are meters that are not valid: of no kind, and of both kinds, with each number beyond its limits.
func invalid() []api.Meter {
	var l []api.Meter
	for _, kind := range []int{0, 3, -1, math.MinInt, math.MaxInt, 1 << 32, 1<<32 + 1, 1<<32 + 2} {
		for _, m := range []api.Meter{{}, one(true, 1000, 1500, 1000), two(false, 1000, 2000, 1000, 1500), {Rate: most, Burst: most}} {
			m.Kind = kind
			l = append(l, m)
		}
	}
	for _, aware := range []bool{false, true} {
		for _, n := range []uint64{api.MaxRate + 1, 1 << 63, most} {
			l = append(l, one(aware, n, 1500, 1000), two(aware, n, n, 1000, 1500), two(aware, 1000, n, 1000, 1500), two(aware, n, 2000, 1000, 1500))
		}
		for _, n := range []uint64{api.MaxBurst + 1, 1 << 63, most} {
			l = append(l, one(aware, 1000, n, 1000), one(aware, 1000, 1500, n), two(aware, 1000, 2000, n, 1500), two(aware, 1000, 2000, 1000, n))
		}
		peak := one(aware, 1000, 1500, 1000)
		peak.Peak = 2000
		l = append(l, peak, one(aware, 1000, 0, 0), two(aware, 1000, 999, 1000, 1500), two(aware, 1, 0, 1000, 1500))
		l = append(l, two(aware, 1000, 2000, 0, 1500), two(aware, 1000, 2000, 1000, 0), two(aware, 1000, 2000, 0, 0))
	}
	return l
}

// layer tells the calls of the layer of a meter's kind.
func layer(m api.Meter) (func(api.Meter) api.Errno, func(api.Meter) (api.Level, api.Errno), func(api.Meter, api.Level, uint64, int, int) (api.Level, int)) {
	if m.Kind == api.Double {
		return double.Check, double.New, double.Step
	}
	return single.Check, single.New, single.Step
}

// number tells a number of any length up to so many bits.
func number(draw *rand.Rand, bits int) uint64 {
	return draw.Uint64() >> (64 - bits) >> draw.Intn(bits)
}

// drawn tells a valid meter of either kind, with numbers of so many bits.
func drawn(draw *rand.Rand, rateBits, burstBits int) api.Meter {
	aware, a, b := draw.Intn(2) == 0, number(draw, rateBits), number(draw, rateBits)
	burst, extra := number(draw, burstBits), number(draw, burstBits)
	if draw.Intn(2) == 0 {
		return two(aware, min(a, b), max(a, b), burst+1, extra+1)
	}
	if burst == 0 && extra == 0 {
		burst = 1
	}
	return one(aware, a, burst, extra)
}

// pres are previous colours, and numbers that are none.
func pres() []int {
	return []int{api.Green, api.Yellow, api.Red, 3, -1, 255, math.MinInt, math.MaxInt}
}

// P28.1

func TestEachKind(t *testing.T) {
	levels := []api.Level{{}, {One: 5, Two: 6, Last: 7, Seen: true}, {One: 1500 * nano, Two: 1500 * nano, Last: 7, Seen: true}, {One: most, Two: most, Last: most}, {One: 5, Two: 2000 * nano, Last: 9}}
	for _, m := range append(valid(), invalid()...) {
		check, fresh, step := layer(m)
		if e, want := meter.Check(m), check(m); e != want {
			t.Errorf("Check(%v) = %d, not %d", m, e, want)
		}
		wantLevel, wantErrno := fresh(m)
		if s, e := meter.New(m); s != wantLevel || e != wantErrno {
			t.Errorf("New(%v) = %v, %d, not %v, %d", m, s, e, wantLevel, wantErrno)
		}
		for _, s := range levels {
			for _, at := range []uint64{0, 8, nano, most} {
				for _, size := range []int{-1, 0, 1, 1000, 1500, math.MinInt, math.MaxInt} {
					for _, pre := range pres() {
						want, wantColour := step(m, s, at, size, pre)
						if got, colour := meter.Step(m, s, at, size, pre); got != want || colour != wantColour {
							t.Fatalf("Step(%v, %v, %d, %d, %d) = %v, %d, not %v, %d", m, s, at, size, pre, got, colour, want, wantColour)
						}
					}
				}
			}
		}
	}
}

func TestCheckOfExamples(t *testing.T) {
	cases := []struct {
		m    api.Meter
		want api.Errno
	}{
		{one(false, 1000, 1500, 1000), api.OK}, {two(false, 1000, 2000, 1000, 1500), api.OK}, {api.Meter{}, api.ErrKind}, {api.Meter{Kind: 3, Rate: most}, api.ErrKind},
		// What one kind may have, the other one may not.
		{one(false, 1000, 0, 1000), api.OK}, {two(false, 1000, 2000, 0, 1500), api.ErrBurst}, {one(false, 1000, 1500, 0), api.OK}, {two(false, 1000, 2000, 1000, 0), api.ErrBurst},
		{api.Meter{Kind: api.Single, Rate: 1000, Peak: 2000, Burst: 1000, Extra: 1500}, api.ErrRate}, {two(false, 1000, 0, 1500, 1000), api.ErrRate},
		{one(false, 1000, 4294967297, 0), api.ErrBurst},
	}
	for _, c := range cases {
		if e := meter.Check(c.m); e != c.want {
			t.Errorf("Check(%v) = %d, not %d", c.m, e, c.want)
		}
	}
}

// P28.2

// example are the packets of the document's example, and the meter.
func example() (api.Meter, []api.Sample) {
	return two(true, 1000, 2000, 1000, 1500), []api.Sample{{Time: 5, Size: 800}, {Time: 5, Size: 700}, {Time: 5, Size: 1}}
}

func TestRunOfExamples(t *testing.T) {
	m, l := example()
	single := one(true, 1000, 1500, 1000)
	three := []api.Sample{{Time: 5, Size: 1000}, {Time: 5, Size: 1000}, {Time: 5 + nano, Size: 1500}}
	back := []api.Sample{{Time: 9, Size: 26}, {Time: 3, Size: 26}, {Time: 1, Size: 26}}
	cases := []struct {
		m       api.Meter
		l       []api.Sample
		pre     []int
		colours []int
		level   api.Level
	}{
		{m, l, nil, []int{api.Green, api.Yellow, api.Red}, api.Level{One: 200 * nano, Two: 0, Last: 5, Seen: true}},
		{m, l, []int{}, []int{api.Green, api.Yellow, api.Red}, api.Level{One: 200 * nano, Two: 0, Last: 5, Seen: true}},
		{m, l, []int{api.Green, api.Green, api.Green, api.Red}, []int{api.Green, api.Yellow, api.Red}, api.Level{One: 200 * nano, Two: 0, Last: 5, Seen: true}},
		{m, l, []int{api.Yellow}, []int{api.Yellow, api.Green, api.Red}, api.Level{One: 300 * nano, Two: 0, Last: 5, Seen: true}},
		{m, l, []int{api.Green, api.Red}, []int{api.Green, api.Red, api.Green}, api.Level{One: 199 * nano, Two: 699 * nano, Last: 5, Seen: true}},
		{m, l, []int{api.Red, 3, -1}, []int{api.Red, api.Red, api.Red}, api.Level{One: 1000 * nano, Two: 1500 * nano, Last: 5, Seen: true}},
		{m, nil, nil, nil, api.Level{One: 1000 * nano, Two: 1500 * nano}},
		{m, nil, []int{api.Red}, nil, api.Level{One: 1000 * nano, Two: 1500 * nano}},
		{single, three, nil, []int{api.Green, api.Yellow, api.Green}, api.Level{One: 0, Two: 0, Last: 5 + nano, Seen: true}},
		{single, three, []int{api.Yellow, api.Yellow, api.Yellow}, []int{api.Yellow, api.Red, api.Red}, api.Level{One: 1500 * nano, Two: 1000 * nano, Last: 5 + nano, Seen: true}},
		{one(false, 1000, 30, 30), back, []int{api.Red, api.Red, api.Red}, []int{api.Green, api.Yellow, api.Red}, api.Level{One: 4 * nano, Two: 4 * nano, Last: 9, Seen: true}},
		// A negative size changes nothing, so that its time is not seen.
		{one(false, 1000, 30, 30), []api.Sample{{Time: 9, Size: -1}, {Time: 3, Size: 26}}, nil, []int{api.Red, api.Green}, api.Level{One: 4 * nano, Two: 30 * nano, Last: 3, Seen: true}},
	}
	for i, c := range cases {
		if colours, s := meter.Run(c.m, c.l, c.pre); !slices.Equal(colours, c.colours) || s != c.level {
			t.Errorf("Run %d = %d, %v, not %d, %v", i, colours, s, c.colours, c.level)
		}
	}
}

func TestRunOfWrongMeters(t *testing.T) {
	_, l := example()
	for _, m := range invalid() {
		for _, l := range [][]api.Sample{nil, l} {
			if colours, s := meter.Run(m, l, []int{api.Green}); len(colours) != 0 || s != (api.Level{}) {
				t.Errorf("Run(%v, ..) = %d, %v", m, colours, s)
			}
		}
	}
}

// samples tells packets whose times and sizes suit a meter, and their previous colours, of which there may be too few or too many.
func samples(draw *rand.Rand, m api.Meter) ([]api.Sample, []int) {
	l := make([]api.Sample, draw.Intn(40))
	now := draw.Uint64() >> draw.Intn(64)
	for i := range l {
		now += number(draw, 32) - number(draw, 31)
		l[i] = api.Sample{Time: now, Size: draw.Intn(2 + int(m.Burst+m.Extra)/(1+draw.Intn(8)))}
		switch draw.Intn(20) {
		case 0:
			l[i].Time = draw.Uint64()
		case 1:
			l[i].Size = []int{-1, math.MinInt, math.MaxInt, 0}[draw.Intn(4)]
		}
	}
	pre := make([]int, draw.Intn(50))
	for i := range pre {
		if draw.Intn(2) == 0 {
			pre[i] = pres()[draw.Intn(8)]
		}
	}
	return l, pre
}

func TestRun(t *testing.T) {
	draw := rand.New(rand.NewSource(281))
	for range 20000 {
		m := drawn(draw, 40, 16)
		l, pre := samples(draw, m)
		_, fresh, step := layer(m)
		want, _ := fresh(m)
		var wantColours []int
		for i, p := range l {
			before := api.Green
			if len(pre) > i {
				before = pre[i]
			}
			var colour int
			want, colour = step(m, want, p.Time, p.Size, before)
			wantColours = append(wantColours, colour)
		}
		if colours, s := meter.Run(m, l, pre); !slices.Equal(colours, wantColours) || s != want {
			t.Fatalf("Run(%v, %v, %d) = %d, %v, not %d, %v", m, l, pre, colours, s, wantColours, want)
		}
	}
}

// P28.3

// told tells the text of a valid meter.
func told(m api.Meter) string {
	sight := map[bool]string{true: "aware", false: "blind"}[m.Aware]
	if m.Kind == api.Double {
		return fmt.Sprintf("double %s %d %d %d %d", sight, m.Rate, m.Peak, m.Burst, m.Extra)
	}
	return fmt.Sprintf("single %s %d %d %d", sight, m.Rate, m.Burst, m.Extra)
}

func TestPrint(t *testing.T) {
	cases := map[string]api.Meter{
		"double aware 1000 2000 1000 1500":                               two(true, 1000, 2000, 1000, 1500),
		"double blind 0 0 1 2":                                           two(false, 0, 0, 1, 2),
		"single aware 1000 1500 1000":                                    one(true, 1000, 1500, 1000),
		"single blind 0 0 1":                                             one(false, 0, 0, 1),
		"single blind 1099511627776 4294967296 4294967295":               one(false, api.MaxRate, api.MaxBurst, api.MaxBurst-1),
		"double aware 1099511627775 1099511627776 4294967296 4294967295": two(true, api.MaxRate-1, api.MaxRate, api.MaxBurst, api.MaxBurst-1),
	}
	for want, m := range cases {
		if s := meter.Print(m); s != want {
			t.Errorf("Print(%v) = %q, not %q", m, s, want)
		}
	}
	for _, m := range valid() {
		if s := meter.Print(m); s != told(m) {
			t.Errorf("Print(%v) = %q, not %q", m, s, told(m))
		}
	}
	for _, m := range invalid() {
		if s := meter.Print(m); s != "" {
			t.Errorf("Print(%v) = %q", m, s)
		}
	}
}

// P28.4

// digits is the form of a number in a text.
var digits = regexp.MustCompile(`\A(0|[1-9][0-9]{0,12})\z`)

// read tells what Parse is to tell.
func read(s string) (api.Meter, api.Fault) {
	words := strings.Split(s, " ")
	required := map[string]int{"single": 5, "double": 6}[words[0]]
	if required == 0 {
		return api.Meter{}, api.Fault{Errno: api.ErrKind, At: 0}
	}
	if len(words) != required {
		return api.Meter{}, api.Fault{Errno: api.ErrForm, At: min(len(words), required)}
	}
	if words[1] != "aware" && words[1] != "blind" {
		return api.Meter{}, api.Fault{Errno: api.ErrForm, At: 1}
	}
	var n []uint64
	for i, word := range words[2:] {
		if !digits.MatchString(word) {
			return api.Meter{}, api.Fault{Errno: api.ErrForm, At: 2 + i}
		}
		value, _ := strconv.ParseUint(word, 10, 64)
		n = append(n, value)
	}
	var m api.Meter
	if required == 5 {
		m = one(words[1] == "aware", n[0], n[1], n[2])
	} else {
		m = two(words[1] == "aware", n[0], n[1], n[2], n[3])
	}
	check, _, _ := layer(m)
	if e := check(m); e != api.OK {
		return api.Meter{}, api.Fault{Errno: e, At: required}
	}
	return m, api.Fault{}
}

// checkParse holds Parse to what it is to tell, and Print to the text that Parse accepted.
func checkParse(t *testing.T, s string) {
	t.Helper()
	want, wantFault := read(s)
	m, fault := meter.Parse(s)
	if m != want || fault != wantFault {
		t.Fatalf("Parse(%q) = %v, %v, not %v, %v", s, m, fault, want, wantFault)
	}
	if printed := meter.Print(m); fault.Errno == api.OK && printed != s {
		t.Fatalf("Print of the parsed %q = %q", s, printed)
	}
}

func TestParseOfExamples(t *testing.T) {
	cases := []struct {
		s  string
		e  api.Errno
		at int
	}{
		{"", api.ErrKind, 0}, {" ", api.ErrKind, 0}, {" single blind 1 1 1", api.ErrKind, 0}, {"Single blind 1 1 1", api.ErrKind, 0}, {"singles blind 1 1 1", api.ErrKind, 0}, {"singl", api.ErrKind, 0}, {"triple", api.ErrKind, 0}, {"aware single 1 1 1", api.ErrKind, 0}, {"single\tblind 1 1 1", api.ErrKind, 0}, {"1 2 3 4 5 6 7 8", api.ErrKind, 0},
		{"single", api.ErrForm, 1}, {"double", api.ErrForm, 1}, {"single ", api.ErrForm, 2}, {"single blind", api.ErrForm, 2}, {"single blind 1", api.ErrForm, 3}, {"single blind 1 1", api.ErrForm, 4}, {"double blind 1 1 1", api.ErrForm, 5}, {"double blind 1 1", api.ErrForm, 4},
		{"single blind 1 1 1 1", api.ErrForm, 5}, {"single blind 1 1 1 ", api.ErrForm, 5}, {"single blind 1 1 1 1 1 1", api.ErrForm, 5}, {"double blind 1 1 1 1 1", api.ErrForm, 6}, {"double blind 1 1 1 1 ", api.ErrForm, 6}, {"double" + strings.Repeat(" ", 1000), api.ErrForm, 6},
		// The number of words ranks ahead of what is wrong with them.
		{"single x 1 1", api.ErrForm, 4}, {"double x y", api.ErrForm, 3}, {"single x y z 1 1", api.ErrForm, 5}, {"single  blind 1 1 1", api.ErrForm, 5},
		{"single x 1 1 1", api.ErrForm, 1}, {"single  1 1 1", api.ErrForm, 1}, {"double Aware 1 1 1 1", api.ErrForm, 1}, {"double awar 1 1 1 1", api.ErrForm, 1}, {"double awareblind 1 1 1 1", api.ErrForm, 1}, {"single x y z 01", api.ErrForm, 1}, {"single 1 1 1 1", api.ErrForm, 1},
		{"single blind x 1 1", api.ErrForm, 2}, {"single blind 1 x 1", api.ErrForm, 3}, {"single blind 1 1 x", api.ErrForm, 4}, {"single blind x y z", api.ErrForm, 2}, {"single blind  1 1", api.ErrForm, 2}, {"single blind 1 1 ", api.ErrForm, 4},
		{"double blind x 1 1 1", api.ErrForm, 2}, {"double blind 1 x 1 1", api.ErrForm, 3}, {"double blind 1 1 x 1", api.ErrForm, 4}, {"double blind 1 1 1 x", api.ErrForm, 5}, {"double blind 1 1 01 00", api.ErrForm, 4},
		{"single blind 00 1 1", api.ErrForm, 2}, {"single blind 01 1 1", api.ErrForm, 2}, {"single blind +1 1 1", api.ErrForm, 2}, {"single blind -1 1 1", api.ErrForm, 2}, {"single blind 10000000000000 1 1", api.ErrForm, 2}, {"single blind 99999999999999999999999 1 1", api.ErrForm, 2}, {"single blind 1 1 0000000000001", api.ErrForm, 4},
		{"single blind 9999999999999 1 1", api.ErrRate, 5}, {"single blind 1099511627777 1 1", api.ErrRate, 5}, {"single blind 1 9999999999999 1", api.ErrBurst, 5}, {"single blind 1 0 4294967297", api.ErrBurst, 5}, {"single blind 1 0 0", api.ErrBurst, 5}, {"single blind 1099511627777 0 0", api.ErrRate, 5}, {"single blind 1099511627777 0 x", api.ErrForm, 4},
		{"double blind 2 1 1 1", api.ErrRate, 6}, {"double blind 1 1099511627777 1 1", api.ErrRate, 6}, {"double blind 9999999999999 9999999999999 0 0", api.ErrRate, 6}, {"double blind 1 1 0 1", api.ErrBurst, 6}, {"double blind 1 1 1 0", api.ErrBurst, 6}, {"double blind 1 1 1 4294967297", api.ErrBurst, 6}, {"double blind 1 1 9999999999999 1", api.ErrBurst, 6}, {"double blind 2 1 1 x", api.ErrForm, 5},
	}
	for _, c := range cases {
		if m, fault := meter.Parse(c.s); m != (api.Meter{}) || fault != (api.Fault{Errno: c.e, At: c.at}) {
			t.Errorf("Parse(%q) = %v, %v, not %d at %d", c.s, m, fault, c.e, c.at)
		}
		checkParse(t, c.s)
	}
	if m, fault := meter.Parse("double aware 1000 2000 1000 1500"); m != two(true, 1000, 2000, 1000, 1500) || fault != (api.Fault{}) {
		t.Errorf("the example: %v, %v", m, fault)
	}
	if m, fault := meter.Parse("single blind 1 2 3"); m != one(false, 1, 2, 3) || fault != (api.Fault{}) {
		t.Errorf("a meter of one rate: %v, %v", m, fault)
	}
}

// Texts of words that are right, nearly right and wrong, of all lengths up to one too many.
func TestParseOfDrawn(t *testing.T) {
	draw := rand.New(rand.NewSource(282))
	firsts := []string{"single", "double", "single", "double", "single", "double", "", "x", "singledouble", "1"}
	sights := []string{"aware", "blind", "aware", "blind", "aware", "blind", "", "x", "awar", "blinds", "1"}
	numbers := []string{"0", "1", "1", "2", "1000", "4294967295", "4294967296", "4294967297", "1099511627776", "1099511627777", "9999999999999", "10000000000000", "18446744073709551617", "00", "01", "", "x", "-1", "1x", "+1", "aware", "single"}
	good := 0
	for range 300000 {
		words := []string{firsts[draw.Intn(len(firsts))], sights[draw.Intn(len(sights))]}
		for range 3 + draw.Intn(3) {
			n := draw.Intn(len(numbers))
			if draw.Intn(3) > 0 {
				n %= 9
			}
			words = append(words, numbers[n])
		}
		s := strings.Join(words, " ")
		checkParse(t, s)
		if _, fault := meter.Parse(s); fault.Errno == api.OK {
			good++
		}
	}
	if good < 5000 {
		t.Errorf("only %d texts are right", good)
	}
}

func TestParseOfAlmost(t *testing.T) {
	for _, s := range []string{"single aware 1000 1500 0", "single blind 1099511627776 0 4294967296", "double blind 0 1099511627776 4294967296 1", "double aware 1000 2000 1000 1500"} {
		checkParse(t, s)
		for _, other := range almost.Texts(s) {
			checkParse(t, other)
		}
	}
}

// P28.5

func TestParseOfPrint(t *testing.T) {
	check := func(m api.Meter) {
		t.Helper()
		s := meter.Print(m)
		if got, fault := meter.Parse(s); got != m || fault != (api.Fault{}) || s != told(m) {
			t.Fatalf("Parse(%q) = %v, %v, not %v", s, got, fault, m)
		}
	}
	for _, m := range valid() {
		check(m)
	}
	draw := rand.New(rand.NewSource(283))
	for range 50000 {
		check(drawn(draw, 40, 32))
	}
}

// P28.6

// curve is a burst and a rate.
type curve struct {
	burst, rate uint64
}

// curves tells a meter's curves: that of the green packets, and that of the green and the yellow ones.
func curves(m api.Meter) [2]curve {
	if m.Kind == api.Double {
		return [2]curve{{m.Burst, m.Rate}, {m.Extra, m.Peak}}
	}
	return [2]curve{{m.Burst, m.Rate}, {m.Burst + m.Extra, m.Rate}}
}

// word tells a number as one of the library's.
func word(n uint64) *big.Int {
	return new(big.Int).SetUint64(n)
}

// allowed tells nano * burst + rate * elapsed.
func allowed(c curve, elapsed uint64) *big.Int {
	gain := new(big.Int).Mul(word(c.rate), word(elapsed))
	return gain.Add(gain, new(big.Int).Mul(word(nano), word(c.burst)))
}

// checkCurve holds the packets of no worse a colour to a curve, between any two.
func checkCurve(t *testing.T, m api.Meter, c curve, times []uint64, l []api.Sample, colours []int, worst int) {
	t.Helper()
	for from := range l {
		var bytes uint64
		for to := from; to < len(l); to++ {
			if colours[to] <= worst {
				bytes += uint64(l[to].Size)
			}
			if colours[to] <= worst && new(big.Int).Mul(word(nano), word(bytes)).Cmp(allowed(c, times[to]-times[from])) > 0 {
				t.Fatalf("%v: %d bytes of up to color %d from %d to %d of %v", m, bytes, worst, from, to, l)
			}
		}
	}
}

// Whatever the times are, and whatever colors packets had before.
func TestCurves(t *testing.T) {
	draw := rand.New(rand.NewSource(284))
	var count [3]int
	for range 20000 {
		m := drawn(draw, 20, 16)
		l, pre := samples(draw, m)
		var times []uint64
		for i, p := range l {
			// A packet of a negative size is none: Step answers its level unchanged, so not even its time counts.
			l[i].Size = max(p.Size, 0)
			times = append(times, p.Time)
		}
		times = ratchet.Run(times)
		colours, _ := meter.Run(m, l, pre)
		for worst, c := range curves(m) {
			checkCurve(t, m, c, times, l, colours, worst)
		}
		for _, colour := range colours {
			count[colour]++
		}
	}
	for colour, n := range count {
		if n < 20000 {
			t.Errorf("%d packets have color %d", n, colour)
		}
	}
}

// room tells the greatest size that a packet at a time may have so that it and all ahead of it conform to a curve.
func room(c curve, times []uint64, l []api.Sample, at uint64) *big.Int {
	least := allowed(c, 0)
	for from := range l {
		free := allowed(c, at-times[from])
		for _, p := range l[from:] {
			free.Sub(free, new(big.Int).Mul(word(nano), word(uint64(p.Size))))
		}
		if free.Cmp(least) < 0 {
			least = free
		}
	}
	return least.Div(least, word(nano))
}

// conforming tells packets that conform to some curves, as large as they may be now and then, and how much room there is for one more.
func conforming(draw *rand.Rand, all []curve) ([]api.Sample, int) {
	var l []api.Sample
	var times []uint64
	var at uint64
	for count := 1 + draw.Intn(15); ; {
		t := at + number(draw, 36)
		if draw.Intn(4) == 0 {
			t = draw.Uint64() % (at + 1)
		}
		at = max(at, t)
		least := big.NewInt(math.MaxInt)
		for _, c := range all {
			if free := room(c, times, l, at); free.Cmp(least) < 0 {
				least = free
			}
		}
		size := int(least.Int64())
		if len(l) == count {
			return append(l, api.Sample{Time: t}), size
		}
		if draw.Intn(2) == 0 {
			size = draw.Intn(size + 1)
		}
		l, times = append(l, api.Sample{Time: t, Size: size}), append(times, at)
	}
}

// Packets that conform are all green, the last one as large as it may be, and one byte more is not.
func TestConformingPackets(t *testing.T) {
	draw := rand.New(rand.NewSource(285))
	for range 20000 {
		m := drawn(draw, 40, 32)
		both := curves(m)
		all := both[:1]
		if m.Kind == api.Double {
			all = both[:]
		}
		l, size := conforming(draw, all)
		pre := make([]int, draw.Intn(20))
		for i := range pre {
			if !m.Aware {
				pre[i] = pres()[draw.Intn(8)]
			}
		}
		last := &l[len(l)-1]
		last.Size = size
		if colours, _ := meter.Run(m, l, pre); slices.Max(colours) != api.Green {
			t.Fatalf("Run(%v, %v, %d) = %d", m, l, pre, colours)
		}
		last.Size++
		if colours, _ := meter.Run(m, l, pre); slices.Max(colours[:len(l)-1]) != api.Green || colours[len(l)-1] == api.Green {
			t.Fatalf("Run(%v, %v, %d) = %d, with a byte too many", m, l, pre, colours)
		}
	}
}

// P1 of the general rules: whatever bytes a text has.
func TestParseOfBytes(t *testing.T) {
	draw := rand.New(rand.NewSource(286))
	for range 20000 {
		b := make([]byte, draw.Intn(40))
		for i := range b {
			b[i] = byte(draw.Intn(256))
		}
		checkParse(t, string(b))
		checkParse(t, "double "+string(b))
	}
	checkParse(t, "single blind "+strings.Repeat("1", 1<<20)+" 1 1")
	checkParse(t, "single blind 1 1 1"+strings.Repeat(" 1", 1<<20))
}

// P3 of the general rules: arguments stay as they are, results share nothing, and only what is within the length counts.

func TestArgumentsStay(t *testing.T) {
	m, l := example()
	l = append(l, api.Sample{Time: 9, Size: 9})
	pre := []int{api.Green, api.Yellow, api.Red, api.Red}
	wantL, wantPre := slices.Clone(l), slices.Clone(pre)
	colours, s := meter.Run(m, l[:3], pre[:1])
	if !slices.Equal(l, wantL) || !slices.Equal(pre, wantPre) {
		t.Errorf("the arguments became %v and %d", l, pre)
	}
	if !slices.Equal(colours, []int{api.Green, api.Yellow, api.Red}) || s != (api.Level{One: 200 * nano, Last: 5, Seen: true}) {
		t.Errorf("Run within the lengths = %d, %v", colours, s)
	}
}

func TestResultsAreNewMemory(t *testing.T) {
	m, l := example()
	pre := []int{api.Green, api.Green, api.Green}
	first, _ := meter.Run(m, l, pre)
	second, _ := meter.Run(m, l, pre)
	for i := range first[:cap(first)] {
		first[:cap(first)][i] = 99
	}
	if !slices.Equal(second, []int{api.Green, api.Yellow, api.Red}) || !slices.Equal(pre, []int{api.Green, api.Green, api.Green}) {
		t.Errorf("the other result is %d, the argument %d", second, pre)
	}
}

// P5 of the general rules: a call answers the same whatever was called ahead of it.
func TestNothingIsKept(t *testing.T) {
	m, l := example()
	for range 3 {
		if colours, s := meter.Run(m, l, nil); !slices.Equal(colours, []int{api.Green, api.Yellow, api.Red}) || s != (api.Level{One: 200 * nano, Last: 5, Seen: true}) {
			t.Errorf("Run = %d, %v", colours, s)
		}
		if s := meter.Print(m); s != "double aware 1000 2000 1000 1500" {
			t.Errorf("Print = %q", s)
		}
		if got, fault := meter.Parse("single blind 1 2 x"); got != (api.Meter{}) || fault != (api.Fault{Errno: api.ErrForm, At: 4}) {
			t.Errorf("Parse of a wrong text = %v, %v", got, fault)
		}
		if got, fault := meter.Parse("double aware 1000 2000 1000 1500"); got != m || fault != (api.Fault{}) {
			t.Errorf("Parse = %v, %v", got, fault)
		}
	}
}
