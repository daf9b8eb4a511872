package action_test

import (
	"math"
	"math/rand"
	"slices"
	"strconv"
	"strings"
	"testing"

	"weighbridge/action"
	"weighbridge/almost"
	"weighbridge/api"
	"weighbridge/colour"
	"weighbridge/point"
)

// odd are numbers that are no code points.
func odd() []int {
	return []int{-1, -2, -46, -64, 64, 65, 110, 128, 255, 256, 302, 1 << 32, 1<<32 + 46, math.MaxInt, math.MinInt, math.MinInt + 46}
}

// drop is the action that drops.
func drop() api.Act {
	return api.Act{Drop: true}
}

// mark is the action that forwards with a number.
func mark(d int) api.Act {
	return api.Act{Dscp: d}
}

// example are the actions of the document's example.
func example() [][]api.Act {
	return [][]api.Act{{mark(10), mark(12), drop()}, {mark(46), drop(), mark(0)}}
}

// isValid tells whether an action is valid, as the document says it.
func isValid(a api.Act) bool {
	if a.Drop {
		return a.Dscp == 0
	}
	return 0 <= a.Dscp && a.Dscp <= 63
}

// acts tells valid actions that are drawn, for so many classes.
func acts(draw *rand.Rand, classes int) [][]api.Act {
	l := make([][]api.Act, classes)
	for i := range l {
		for range 3 {
			a := mark(draw.Intn(64))
			if draw.Intn(3) == 0 {
				a = drop()
			}
			l[i] = append(l[i], a)
		}
	}
	return l
}

// bend makes drawn actions wrong in drawn places.
func bend(draw *rand.Rand, l [][]api.Act) {
	for i := range l {
		switch draw.Intn(6) {
		case 0:
			l[i] = l[i][:draw.Intn(4)]
		case 1:
			l[i] = append(l[i], mark(draw.Intn(64)), drop(), mark(draw.Intn(64)))
		case 2:
			l[i][draw.Intn(3)].Dscp = odd()[draw.Intn(len(odd()))]
		case 3:
			l[i][draw.Intn(3)].Drop = draw.Intn(2) == 0
		}
	}
}

// table tells a drawn table of colours.
func table(draw *rand.Rand) []int {
	l := make([]int, 64)
	for i := range l {
		l[i] = draw.Intn(3)
	}
	return l
}

// P32.1

func TestCheck(t *testing.T) {
	draw := rand.New(rand.NewSource(321))
	for classes := range 40 {
		for range 20 {
			l := acts(draw, classes)
			if got := action.Check(l, classes); got != (api.Fault{}) {
				t.Errorf("Check(%v, %d) = %v", l, classes, got)
			}
			for _, other := range []int{classes - 1, classes + 1, -classes - 1, 0, 3, 300, math.MaxInt, math.MinInt, classes + 1<<32} {
				want := api.Fault{Errno: api.ErrTable, At: classes}
				if got := action.Check(l, other); other != classes && got != want {
					t.Errorf("Check(%v, %d) = %v, not %v", l, other, got, want)
				}
			}
		}
	}
	if got := action.Check(nil, 0); got != (api.Fault{}) {
		t.Errorf("Check(nil, 0) = %v", got)
	}
	if got := action.Check(nil, 1); got != (api.Fault{Errno: api.ErrTable}) {
		t.Errorf("Check(nil, 1) = %v", got)
	}
}

func TestCheckOfEveryAction(t *testing.T) {
	for at := range 3 {
		for d := range 64 {
			for _, dropped := range []bool{false, true} {
				l := [][]api.Act{{drop(), drop(), drop()}}
				l[0][at] = api.Act{Drop: dropped, Dscp: d}
				var want api.Fault
				if dropped && d != 0 {
					want.Errno = api.ErrPoint
				}
				if got := action.Check(l, 1); got != want {
					t.Errorf("Check(%v, 1) = %v, not %v", l, got, want)
				}
			}
		}
	}
}

// wrongs are classes' actions that are wrong, by their errors.
func wrongs() map[api.Errno][][]api.Act {
	l := map[api.Errno][][]api.Act{
		api.ErrTable: {nil, {}, {drop()}, {mark(0)}, {drop(), mark(9)}, {drop(), drop(), drop(), drop()}, {mark(1), mark(2), mark(3), mark(4)}, slices.Repeat([]api.Act{mark(5)}, 64),
			// How many there are ranks ahead of what they are.
			{mark(64)}, {mark(-1), mark(0)}, {mark(-1), mark(0), drop(), drop()}, {drop(), drop(), drop(), mark(64)},
			// What is behind the end is no part of the list.
			[]api.Act{drop(), drop(), drop()}[:2]},
	}
	for at := range 3 {
		for _, d := range odd() {
			for _, a := range []api.Act{mark(d), {Drop: true, Dscp: d}} {
				row := []api.Act{mark(63), drop(), mark(0)}
				row[at] = a
				l[api.ErrPoint] = append(l[api.ErrPoint], row, slices.Repeat([]api.Act{a}, 3))
			}
		}
		for d := 1; d < 64; d++ {
			row := []api.Act{mark(63), drop(), mark(0)}
			row[at] = api.Act{Drop: true, Dscp: d}
			l[api.ErrPoint] = append(l[api.ErrPoint], row)
		}
	}
	return l
}

func TestCheckOfWrongActions(t *testing.T) {
	draw := rand.New(rand.NewSource(322))
	for e, rows := range wrongs() {
		for _, row := range rows {
			for at := range 4 {
				l := acts(draw, 4)
				l[at] = row
				want := api.Fault{Errno: e, At: at}
				if got := action.Check(l, 4); got != want {
					t.Errorf("Check(%v, 4) = %v, not %v", l, got, want)
				}
				// The first class that is wrong is told, however those behind it are.
				for i := at + 1; i < 4; i++ {
					l[i] = [][]api.Act{nil, {mark(64), drop(), drop()}}[draw.Intn(2)]
				}
				if got := action.Check(l, 4); got != want {
					t.Errorf("Check(%v, 4) = %v, not %v", l, got, want)
				}
				// How many classes there are ranks ahead of all of them.
				want = api.Fault{Errno: api.ErrTable, At: 4}
				if got := action.Check(l, 5); got != want {
					t.Errorf("Check(%v, 5) = %v, not %v", l, got, want)
				}
			}
		}
	}
}

// P32.2

func TestOf(t *testing.T) {
	draw := rand.New(rand.NewSource(323))
	indices := []int{-2, -1, 0, 1, 2, 3, 4, 5, 6, 7, 63, 1 << 32, math.MaxInt, math.MinInt}
	for range 2000 {
		l := acts(draw, draw.Intn(6))
		if draw.Intn(2) == 0 {
			bend(draw, l)
		}
		for _, class := range indices {
			for _, c := range indices {
				var want api.Act
				is := false
				for i, row := range l {
					for j, a := range row {
						if i == class && j == c && j < 3 {
							want, is = a, true
						}
					}
				}
				if a, ok := action.Of(l, class, c); a != want || ok != is {
					t.Fatalf("Of(%v, %d, %d) = %v, %t, not %v, %t", l, class, c, a, ok, want, is)
				}
			}
		}
	}
}

func TestOfExamples(t *testing.T) {
	cases := []struct {
		l         [][]api.Act
		class, of int
		want      api.Act
		ok        bool
	}{
		{example(), 0, api.Green, mark(10), true}, {example(), 0, api.Yellow, mark(12), true}, {example(), 0, api.Red, drop(), true},
		{example(), 1, api.Green, mark(46), true}, {example(), 1, api.Red, mark(0), true},
		{example(), 2, api.Green, api.Act{}, false}, {example(), -1, api.Green, api.Act{}, false}, {example(), 0, -1, api.Act{}, false}, {example(), 0, 3, api.Act{}, false},
		{nil, 0, 0, api.Act{}, false}, {[][]api.Act{nil}, 0, 0, api.Act{}, false}, {[][]api.Act{nil, {mark(5)}}, 1, 0, mark(5), true},
		{[][]api.Act{{mark(5)}}, 0, 1, api.Act{}, false},
		// There are three colours, however many actions a class has; and an action needs not be valid.
		{[][]api.Act{{drop(), drop(), mark(7), mark(5)}}, 0, 2, mark(7), true}, {[][]api.Act{{drop(), drop(), drop(), mark(5)}}, 0, 3, api.Act{}, false},
		{[][]api.Act{{mark(-9), {Drop: true, Dscp: 99}}}, 0, 0, mark(-9), true}, {[][]api.Act{{mark(-9), {Drop: true, Dscp: 99}}}, 0, 1, api.Act{Drop: true, Dscp: 99}, true},
		// What is behind a list's end is no part of it.
		{example()[:1], 1, 0, api.Act{}, false}, {[][]api.Act{[]api.Act{drop(), mark(3)}[:1]}, 0, 1, api.Act{}, false},
	}
	for i, c := range cases {
		if a, ok := action.Of(c.l, c.class, c.of); a != c.want || ok != c.ok {
			t.Errorf("Of %d = %v, %t, not %v, %t", i, a, ok, c.want, c.ok)
		}
	}
}

// P32.3

// promotes tells what Promotes is to tell.
func promotes(l [][]api.Act, pre []int) (int, int, bool) {
	if len(pre) != 64 || slices.Min(pre) < 0 || slices.Max(pre) > 2 {
		return 0, 0, false
	}
	for class, row := range l {
		for c, a := range row {
			if c < 3 && !a.Drop && isValid(a) && pre[a.Dscp] < c {
				return class, c, true
			}
		}
	}
	return 0, 0, false
}

// checkPromotes holds Promotes to what it is to tell.
func checkPromotes(t *testing.T, l [][]api.Act, pre []int) bool {
	t.Helper()
	wantClass, wantColour, want := promotes(l, pre)
	class, c, ok := action.Promotes(l, pre)
	if class != wantClass || c != wantColour || ok != want {
		t.Fatalf("Promotes(%v, %d) = %d, %d, %t, not %d, %d, %t", l, pre, class, c, ok, wantClass, wantColour, want)
	}
	return ok
}

func TestPromotesOfExamples(t *testing.T) {
	short, long, wrong := colour.Standard()[:63], append(colour.Standard(), 0), colour.Standard()
	wrong[63] = 3
	reds := slices.Repeat([]int{2}, 64)
	cases := []struct {
		l          [][]api.Act
		pre        []int
		class, why int
		ok         bool
	}{
		{example(), colour.Standard(), 1, api.Red, true},
		{example()[:1], colour.Standard(), 0, 0, false},
		{example(), make([]int, 64), 0, api.Yellow, true},
		{example(), reds, 0, 0, false},
		{example(), nil, 0, 0, false}, {example(), short, 0, 0, false}, {example(), long, 0, 0, false}, {example(), wrong, 0, 0, false},
		{nil, colour.Standard(), 0, 0, false}, {[][]api.Act{}, colour.Standard(), 0, 0, false}, {[][]api.Act{nil, {}}, colour.Standard(), 0, 0, false},
		{[][]api.Act{{mark(0), mark(0), mark(0)}}, colour.Standard(), 0, api.Yellow, true},
		{[][]api.Act{{mark(0), mark(12), mark(14)}}, colour.Standard(), 0, 0, false},
		{[][]api.Act{{mark(14), mark(14), mark(14)}}, colour.Standard(), 0, 0, false},
		{[][]api.Act{{mark(14), mark(14), mark(12)}}, colour.Standard(), 0, api.Red, true},
		{[][]api.Act{{mark(14), mark(10), mark(12)}}, colour.Standard(), 0, api.Yellow, true},
		// A drop is no promotion, whatever its number is; nor is a number that is no code point.
		{[][]api.Act{{drop(), drop(), drop()}}, colour.Standard(), 0, 0, false},
		{[][]api.Act{{drop(), {Drop: true, Dscp: 10}, {Drop: true, Dscp: 46}}, {mark(64), mark(64), mark(-1)}}, colour.Standard(), 0, 0, false},
		{[][]api.Act{{mark(64), mark(-1), mark(10)}}, colour.Standard(), 0, api.Red, true},
		// A class may have fewer actions; what it has beyond the third one is for no colour.
		{[][]api.Act{nil, {mark(0)}, {mark(0), mark(1)}}, colour.Standard(), 2, api.Yellow, true},
		{[][]api.Act{{drop(), drop(), drop(), mark(0), mark(0)}}, colour.Standard(), 0, 0, false},
		{[][]api.Act{{drop(), drop(), drop(), mark(0)}, {drop(), drop(), mark(0)}}, colour.Standard(), 1, api.Red, true},
	}
	for i, c := range cases {
		if class, why, ok := action.Promotes(c.l, c.pre); class != c.class || why != c.why || ok != c.ok {
			t.Errorf("Promotes %d = %d, %d, %t, not %d, %d, %t", i, class, why, ok, c.class, c.why, c.ok)
		}
	}
}

// Each code point at each colour, with each colour in the table.
func TestPromotesOfEveryPoint(t *testing.T) {
	for d := range 64 {
		for c := range 3 {
			l := [][]api.Act{{drop(), drop(), drop()}}
			l[0][c] = mark(d)
			for has := range 3 {
				pre := slices.Repeat([]int{2 - has}, 64)
				pre[d] = has
				if got := checkPromotes(t, l, pre); got != (has < c) {
					t.Errorf("%d at %d with %d ahead: %t", d, c, has, got)
				}
			}
		}
	}
}

func TestPromotesOfDrawnActions(t *testing.T) {
	draw := rand.New(rand.NewSource(324))
	var count [2]int
	for range 20000 {
		l := acts(draw, draw.Intn(5))
		if draw.Intn(2) == 0 {
			bend(draw, l)
		}
		pre := colour.Standard()
		switch draw.Intn(4) {
		case 0:
			pre = table(draw)
		case 1:
			pre = slices.Repeat([]int{2}, 64)
			pre[draw.Intn(64)] = draw.Intn(3)
		}
		if checkPromotes(t, l, pre) {
			count[1]++
		} else {
			count[0]++
		}
		pre[draw.Intn(64)] = []int{-1, 3, math.MinInt, math.MaxInt}[draw.Intn(4)]
		checkPromotes(t, l, pre)
		checkPromotes(t, l, pre[:draw.Intn(64)])
	}
	if min(count[0], count[1]) < 2000 {
		t.Errorf("%d promote nothing, %d something", count[0], count[1])
	}
}

// P32.4

// worst tells what Worst is to tell.
func worst(l [][]api.Act, classes, points []int) (int, bool) {
	for c := 2; c >= 0; c-- {
		for _, class := range classes {
			if class < 0 || class >= len(l) || c >= len(l[class]) {
				continue
			}
			if a := l[class][c]; !a.Drop && slices.Contains(points, a.Dscp) {
				return c, true
			}
		}
	}
	return 0, false
}

func TestWorstOfExamples(t *testing.T) {
	cases := []struct {
		l               [][]api.Act
		classes, points []int
		want            int
		ok              bool
	}{
		{example(), []int{0, 1}, []int{10, 12, 46, 0}, api.Red, true},
		{example(), []int{0}, []int{10, 12, 46, 0}, api.Yellow, true},
		{example(), []int{0, 1}, []int{10, 12, 46}, api.Yellow, true},
		{example(), []int{1}, []int{10, 12, 46}, api.Green, true},
		{example(), []int{1}, []int{10, 12}, 0, false},
		{example(), []int{1}, []int{0}, api.Red, true},
		{example(), []int{0}, []int{0}, 0, false},
		{example(), nil, []int{10, 12, 46, 0}, 0, false},
		{example(), []int{0, 1}, nil, 0, false},
		{nil, []int{0, 1}, []int{10, 12, 46, 0}, 0, false},
		{[][]api.Act{nil, {}}, []int{0, 1}, []int{10, 12, 46, 0}, 0, false},
		// Classes that there are not have no actions; a class or a number may be named more than once, in any order.
		{example(), []int{-1, 2, 3, math.MaxInt, math.MinInt}, []int{10, 12, 46, 0}, 0, false},
		{example(), []int{7, 1, -1, 0, 1}, []int{46, 10, 46, 10}, api.Green, true},
		{example(), []int{1, 0, 0, 1}, []int{12, 99, 12, -1}, api.Yellow, true},
		// A drop does not forward, whatever its number is; what forwards may do so with any number.
		{[][]api.Act{{mark(5), drop(), {Drop: true, Dscp: 5}}}, []int{0}, []int{5, 0}, api.Green, true},
		{[][]api.Act{{mark(5), mark(99), mark(-7)}}, []int{0}, []int{5, 99}, api.Yellow, true},
		{[][]api.Act{{mark(5), mark(99), mark(-7)}}, []int{0}, []int{-7}, api.Red, true},
		{[][]api.Act{{mark(5), mark(99), mark(math.MinInt)}}, []int{0}, []int{math.MinInt}, api.Red, true},
		// A class may have fewer actions; what it has beyond the third one is for no colour.
		{[][]api.Act{{mark(5)}, {mark(6), mark(5)}}, []int{0, 1}, []int{5}, api.Yellow, true},
		{[][]api.Act{{mark(5), drop(), drop(), mark(6), mark(5)}}, []int{0}, []int{5, 6}, api.Green, true},
		{[][]api.Act{{drop(), drop(), drop(), mark(6)}}, []int{0}, []int{6}, 0, false},
	}
	for i, c := range cases {
		if got, ok := action.Worst(c.l, c.classes, c.points); got != c.want || ok != c.ok {
			t.Errorf("Worst %d = %d, %t, not %d, %t", i, got, ok, c.want, c.ok)
		}
	}
}

// some tells a few numbers that are drawn from below a number, and odd ones.
func some(draw *rand.Rand, below int) []int {
	l := make([]int, draw.Intn(8))
	for i := range l {
		l[i] = draw.Intn(below)
		if draw.Intn(5) == 0 {
			l[i] = odd()[draw.Intn(len(odd()))]
		}
	}
	return l
}

func TestWorstOfDrawnActions(t *testing.T) {
	draw := rand.New(rand.NewSource(325))
	var count [4]int
	for range 30000 {
		l := acts(draw, draw.Intn(6))
		if draw.Intn(2) == 0 {
			bend(draw, l)
		}
		classes, points := some(draw, 7), some(draw, 64)
		for _, row := range l {
			if len(row) > 0 && draw.Intn(2) == 0 {
				points = append(points, row[draw.Intn(len(row))].Dscp)
			}
		}
		draw.Shuffle(len(points), func(i, j int) { points[i], points[j] = points[j], points[i] })
		want, is := worst(l, classes, points)
		if got, ok := action.Worst(l, classes, points); got != want || ok != is {
			t.Fatalf("Worst(%v, %d, %d) = %d, %t, not %d, %t", l, classes, points, got, ok, want, is)
		}
		if is {
			count[want]++
		} else {
			count[3]++
		}
	}
	if slices.Min(count[:]) < 2000 {
		t.Errorf("only so many of each answer: %d", count)
	}
}

func TestWorstOfManyNumbers(t *testing.T) {
	classes, points := make([]int, 300000), make([]int, 300000)
	for i := range classes {
		classes[i], points[i] = i/2, i+64
	}
	l := slices.Repeat([][]api.Act{{mark(1), mark(2), mark(3)}}, 100000)
	if got, ok := action.Worst(l, classes, points); got != 0 || ok {
		t.Errorf("Worst = %d, %t", got, ok)
	}
	points[len(points)-1] = 2
	if got, ok := action.Worst(l, classes, points); got != api.Yellow || !ok {
		t.Errorf("Worst = %d, %t", got, ok)
	}
}

// points tells what Points is to tell.
func points(l [][]api.Act) []int {
	var out []int
	for d := range 64 {
		if slices.ContainsFunc(l, func(row []api.Act) bool { return slices.Contains(row[:min(3, len(row))], mark(d)) }) {
			out = append(out, d)
		}
	}
	return out
}

func TestPointsOfExamples(t *testing.T) {
	var all [][]api.Act
	var every []int
	for d := range 64 {
		all = append(all, []api.Act{mark(63 - d), drop(), mark(d)})
		every = append(every, d)
	}
	cases := []struct {
		l    [][]api.Act
		want []int
	}{
		{example(), []int{0, 10, 12, 46}}, {nil, nil}, {[][]api.Act{}, nil}, {[][]api.Act{nil, {}, nil}, nil}, {all, every},
		{[][]api.Act{{drop(), drop(), drop()}, {drop(), drop(), drop()}}, nil},
		{[][]api.Act{{mark(0), mark(0), mark(0)}, {mark(0), drop(), mark(0)}}, []int{0}},
		{[][]api.Act{{mark(63), mark(0), mark(62)}, {mark(1), mark(63), mark(1)}}, []int{0, 1, 62, 63}},
		// Of a drop the number does not count, and of what forwards nothing but a code point does.
		{[][]api.Act{{{Drop: true, Dscp: 5}, mark(64), mark(-1)}}, nil},
		{[][]api.Act{{mark(math.MinInt), mark(math.MaxInt), mark(1 << 32)}, {mark(256), mark(9), mark(-64)}}, []int{9}},
		// A class may have fewer actions; what it has beyond the third one is for no colour.
		{[][]api.Act{{mark(7)}, {mark(5), mark(6)}, nil}, []int{5, 6, 7}},
		{[][]api.Act{{mark(7), drop(), mark(6), mark(5), mark(4)}}, []int{6, 7}},
	}
	for i, c := range cases {
		if got := action.Points(c.l); !slices.Equal(got, c.want) {
			t.Errorf("Points %d = %d, not %d", i, got, c.want)
		}
	}
}

func TestPointsOfDrawnActions(t *testing.T) {
	draw := rand.New(rand.NewSource(326))
	for range 10000 {
		l := acts(draw, draw.Intn(20))
		if draw.Intn(2) == 0 {
			bend(draw, l)
		}
		if got, want := action.Points(l), points(l); !slices.Equal(got, want) {
			t.Fatalf("Points(%v) = %d, not %d", l, got, want)
		}
	}
}

// P32.5

func TestPrint(t *testing.T) {
	if got := action.Print(drop()); got != "drop" {
		t.Errorf("Print of drop = %q", got)
	}
	for d, want := range map[int]string{0: "cs0", 1: "le", 2: "2", 10: "af11", 38: "af43", 44: "va", 46: "ef", 56: "cs7", 63: "63"} {
		if got := action.Print(mark(d)); got != want {
			t.Errorf("Print of %d = %q, not %q", d, got, want)
		}
	}
	for d := range 64 {
		if got := action.Print(mark(d)); got != point.Name(d) || got == "" {
			t.Errorf("Print of %d = %q, not %q", d, got, point.Name(d))
		}
		if got := action.Print(api.Act{Drop: true, Dscp: d}); d != 0 && got != "" {
			t.Errorf("Print of a drop with %d = %q", d, got)
		}
	}
	for _, d := range odd() {
		for _, a := range []api.Act{mark(d), {Drop: true, Dscp: d}} {
			if got := action.Print(a); got != "" {
				t.Errorf("Print(%v) = %q", a, got)
			}
		}
	}
}

func TestParse(t *testing.T) {
	cases := map[string]api.Act{
		"drop": drop(), "cs0": mark(0), "0": mark(0), "le": mark(1), "1": mark(1), "af11": mark(10), "10": mark(10), "ef": mark(46), "46": mark(46), "va": mark(44), "cs7": mark(56), "63": mark(63),
	}
	for s, want := range cases {
		if got, e := action.Parse(s); got != want || e != api.OK {
			t.Errorf("Parse(%q) = %v, %d, not %v", s, got, e, want)
		}
	}
}

func TestParseErrors(t *testing.T) {
	cases := map[api.Errno][]string{
		api.ErrForm: {"", " ", "Drop", "DROP", "drop ", " drop", "drop\n", "drops", "dro", "d", "-", "dropped", "dropdrop", "drop 0", "drop cs0", "forward", "AF11", "EF", "cs8", "00", "046", "100", "-1", "+1",
			"ef ", "46 ", "\x00", "\xff", strings.Repeat("drop", 1<<18), strings.Repeat("1", 1<<20)},
		api.ErrPoint: {"64", "65", "80", "99"},
	}
	for want, texts := range cases {
		for _, s := range texts {
			if got, e := action.Parse(s); got != (api.Act{}) || e != want {
				t.Errorf("Parse(%.40q) = %v, %d, not %d", s, got, e, want)
			}
		}
	}
}

// Every text but drop is read as point.Parse reads it.
func TestParseOfAlmostNames(t *testing.T) {
	texts := []string{"64", "99", "100", "drop"}
	for d := range 64 {
		texts = append(texts, point.Name(d), strconv.Itoa(d))
	}
	for _, s := range texts {
		for _, text := range append(almost.Texts(s), s) {
			var want api.Act
			var f api.Errno
			if text == "drop" {
				want = drop()
			} else {
				want.Dscp, f = point.Parse(text)
			}
			if got, e := action.Parse(text); got != want || e != f {
				t.Errorf("Parse(%q) = %v, %d, not %v, %d", text, got, e, want, f)
			}
		}
	}
}

// P32.6

// Packets of the colours of their code points: none is forwarded with the code point of a better one, where nothing is promoted.
func TestNothingIsPromoted(t *testing.T) {
	draw := rand.New(rand.NewSource(327))
	count := 0
	for range 30000 {
		l, pre := acts(draw, 1+draw.Intn(3)), table(draw)
		class, c, some := action.Promotes(l, pre)
		better := func(class, c int) bool {
			a, ok := action.Of(l, class, c)
			now, is := colour.Of(pre, a.Dscp)
			if !ok || !is {
				t.Fatalf("%v has no action for %d and %d, or %d no colour for it", l, class, c, pre)
			}
			return !a.Drop && now < c
		}
		for i := range 3 * len(l) {
			// The first promotion is told: there is none ahead of it.
			if some && i == 3*class+c {
				if !better(class, c) {
					t.Fatalf("Promotes(%v, %d) = %d, %d", l, pre, class, c)
				}
				break
			}
			if better(i/3, i%3) {
				t.Fatalf("Promotes(%v, %d) = %d, %d, %t, and there is one at %d", l, pre, class, c, some, i)
			}
		}
		if !some {
			count++
		}
	}
	if count < 1000 {
		t.Errorf("only %d promote nothing", count)
	}
}

func TestParseOfPrint(t *testing.T) {
	seen := map[string]api.Act{}
	valid := []api.Act{drop()}
	for d := range 64 {
		valid = append(valid, mark(d))
	}
	for _, a := range valid {
		s := action.Print(a)
		if other, twice := seen[s]; twice || s == "" {
			t.Errorf("%q is the text of %v and of %v", s, other, a)
		}
		seen[s] = a
		got, e := action.Parse(s)
		if got != a || e != api.OK {
			t.Errorf("Parse of Print(%v) = %v, %d", a, got, e)
		}
		if action.Check([][]api.Act{{got, got, got}}, 1) != (api.Fault{}) {
			t.Errorf("Parse(%q) = %v, which is not valid", s, got)
		}
	}
}

// P3, P5

// wide tells actions whose lists have spare capacity, in which other ones stand.
func wide(l [][]api.Act) [][]api.Act {
	out := make([][]api.Act, 0, len(l)+2)
	for _, row := range l {
		out = append(out, append(slices.Clone(row), mark(0), mark(61))[:len(row)])
	}
	return append(out, []api.Act{mark(0), mark(60), mark(59)}, nil)[:len(l)]
}

// whole tells copies of actions, of what stands in their spare capacity, too.
func whole(l [][]api.Act) [][]api.Act {
	l = slices.Clone(l[:cap(l)])
	for i, row := range l {
		l[i] = slices.Clone(row[:cap(row)])
	}
	return l
}

// said tells everything that is answered of actions.
func said(l [][]api.Act, classes, points, pre []int) []int {
	fault := action.Check(l, len(l))
	class, c, promoted := action.Promotes(l, pre)
	w, found := action.Worst(l, classes, points)
	out := append([]int{int(fault.Errno), fault.At, class, c, w}, action.Points(l)...)
	for _, is := range []bool{promoted, found} {
		if is {
			out = append(out, 99)
		}
	}
	for i := range 5 {
		a, ok := action.Of(l, i, i%4)
		out = append(out, a.Dscp)
		if ok != (action.Print(a) != "" && i < len(l) && i%4 < min(3, len(l[i]))) && action.Check(l, len(l)).Errno == api.OK {
			out = append(out, -99)
		}
	}
	return out
}

func TestArgumentsStay(t *testing.T) {
	draw := rand.New(rand.NewSource(328))
	for range 3000 {
		l := acts(draw, draw.Intn(5))
		if draw.Intn(2) == 0 {
			bend(draw, l)
		}
		given := wide(l)
		before := whole(given)
		classes, points, pre := some(draw, 5), some(draw, 64), table(draw)
		lists := [][]int{append(classes, 0, 1, 2, 3), append(points, 0, 61, 60, 59), append(pre, 0)}
		kept := [][]int{slices.Clone(lists[0]), slices.Clone(lists[1]), slices.Clone(lists[2])}
		got := said(given, lists[0][:len(classes)], lists[1][:len(points)], lists[2][:64])
		if want := said(l, classes, points, pre); !slices.Equal(got, want) {
			t.Fatalf("%v is answered in two ways: %d, %d", l, got, want)
		}
		if slices.Contains(got, -99) {
			t.Fatalf("%v: not all that Of tells is valid: %d", l, got)
		}
		if !slices.EqualFunc(whole(given), before, slices.Equal[[]api.Act]) {
			t.Fatalf("%v became %v", before, whole(given))
		}
		for i := range lists {
			if !slices.Equal(lists[i], kept[i]) {
				t.Fatalf("%d became %d", kept[i], lists[i])
			}
		}
	}
}

func TestNothingIsKept(t *testing.T) {
	for range 3 {
		got := action.Points(example())
		if !slices.Equal(got, []int{0, 10, 12, 46}) {
			t.Errorf("Points = %d", got)
		}
		// What was answered belongs to the caller: to write into it changes no later answer.
		for i := range got[:cap(got)] {
			got[:cap(got)][i] = 7
		}
		if w, ok := action.Worst(example(), []int{0}, []int{12}); w != api.Yellow || !ok {
			t.Errorf("Worst = %d, %t", w, ok)
		}
		if w, ok := action.Worst(example(), []int{1}, []int{12}); w != 0 || ok {
			t.Errorf("Worst of another class = %d, %t", w, ok)
		}
		if a, e := action.Parse("64"); a != (api.Act{}) || e != api.ErrPoint {
			t.Errorf("Parse of 64 = %v, %d", a, e)
		}
		if a, e := action.Parse("drop"); a != drop() || e != api.OK {
			t.Errorf("Parse of drop = %v, %d", a, e)
		}
	}
}
