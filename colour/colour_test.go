package colour_test

import (
	"math"
	"math/rand"
	"slices"
	"strings"
	"testing"

	"weighbridge/almost"
	"weighbridge/api"
	"weighbridge/colour"
	"weighbridge/point"
)

// standard is the text of the standard table, code point by code point.
const standard = "gggggggg" +
	"ggggygrg" +
	"ggggygrg" +
	"ggggygrg" +
	"ggggygrg" +
	"gggggggg" +
	"gggggggg" +
	"gggggggg"

// names are the names of the colours, the better one first.
func names() []string {
	return []string{"green", "yellow", "red"}
}

// noColours are numbers that are no colours.
func noColours() []int {
	l := []int{64, 255, 256, 257, 1 << 32, 1<<32 + 1, math.MaxInt, math.MinInt, math.MinInt + 1, math.MinInt + 2}
	for n := 1; n <= 10; n++ {
		l = append(l, -n, 2+n)
	}
	return l
}

// noPoints are numbers that are no code points.
func noPoints() []int {
	l := []int{255, 256, 1 << 32, 1<<32 + 46, math.MaxInt, math.MinInt, math.MinInt + 46}
	for n := 1; n <= 130; n++ {
		l = append(l, -n, 63+n)
	}
	return l
}

// table tells a drawn table.
func table(draw *rand.Rand) []int {
	l := make([]int, 64)
	for i := range l {
		l[i] = draw.Intn(3)
	}
	return l
}

// tables tells tables of one colour, the standard one, and drawn ones.
func tables() [][]int {
	draw := rand.New(rand.NewSource(311))
	l := [][]int{slices.Repeat([]int{0}, 64), slices.Repeat([]int{1}, 64), slices.Repeat([]int{2}, 64), colour.Standard()}
	for range 200 {
		l = append(l, table(draw))
	}
	return l
}

// refused holds all calls that take a table to a table's fault.
func refused(t *testing.T, l []int, want api.Fault) {
	t.Helper()
	if got := colour.Check(l); got != want {
		t.Errorf("Check(%d) = %v, not %v", l, got, want)
	}
	if got := colour.Print(l); got != "" {
		t.Errorf("Print(%d) = %q", l, got)
	}
	for d := range max(64, min(len(l), 200)) {
		if c, ok := colour.Of(l, d); c != 0 || ok {
			t.Errorf("Of(%d, %d) = %d, %t", l, d, c, ok)
		}
	}
}

// P31.1

func TestCheck(t *testing.T) {
	for _, l := range tables() {
		if got := colour.Check(l); got != (api.Fault{}) {
			t.Errorf("Check(%d) = %v", l, got)
		}
	}
}

func TestTablesOfAnotherLength(t *testing.T) {
	refused(t, nil, api.Fault{Errno: api.ErrTable, At: 0})
	for n := range 300 {
		if n == 64 {
			continue
		}
		want := api.Fault{Errno: api.ErrTable, At: n}
		l := slices.Repeat([]int{1}, n)
		refused(t, l, want)
		if n > 0 {
			// The length ranks ahead of the colours, and what stands beyond it is no part of the table.
			l[0] = 3
			refused(t, l, want)
			l[0], l[n-1] = 0, -1
			refused(t, l, want)
		}
		if n < 64 {
			refused(t, make([]int, 64)[:n], want)
		}
	}
	refused(t, make([]int, 1<<16), api.Fault{Errno: api.ErrTable, At: 1 << 16})
}

func TestTablesOfOtherColours(t *testing.T) {
	for at := range 64 {
		for _, c := range noColours() {
			for _, behind := range []int{0, 2, 3, -1} {
				l := colour.Standard()
				for i := at + 1; i < 64; i++ {
					l[i] = behind
				}
				l[at] = c
				refused(t, l, api.Fault{Errno: api.ErrColour, At: at})
			}
		}
	}
}

// P31.2

func TestOf(t *testing.T) {
	for _, l := range tables() {
		for d, want := range l {
			if got, ok := colour.Of(l, d); got != want || !ok {
				t.Errorf("Of(%d, %d) = %d, %t, not %d", l, d, got, ok, want)
			}
		}
		for _, d := range noPoints() {
			if got, ok := colour.Of(l, d); got != 0 || ok {
				t.Errorf("Of(%d, %d) = %d, %t", l, d, got, ok)
			}
		}
	}
	// What stands behind a table is no part of it.
	l := slices.Repeat([]int{2}, 70)[:64]
	if got, ok := colour.Of(l, 64); got != 0 || ok {
		t.Errorf("Of behind the end = %d, %t", got, ok)
	}
}

func TestStandard(t *testing.T) {
	l := colour.Standard()
	if len(l) != 64 {
		t.Fatalf("Standard() has %d colours", len(l))
	}
	for d, c := range l {
		if want := strings.IndexByte("gyr", standard[d]); c != want {
			t.Errorf("Standard() has %d at %d, not %d", c, d, want)
		}
		if want := [4]int{api.Green, api.Green, api.Yellow, api.Red}[point.Prec(d)]; c != want {
			t.Errorf("Standard() has %d at %d, whose precedence is %d", c, d, point.Prec(d))
		}
	}
	if l[12] != api.Yellow || l[38] != api.Red || l[46] != api.Green {
		t.Errorf("Standard() has %d, %d and %d at af12, af43 and ef", l[12], l[38], l[46])
	}
}

// P31.3

func TestWorst(t *testing.T) {
	if got := colour.Worst(); got != api.Green {
		t.Errorf("Worst() = %d", got)
	}
	if got := colour.Worst(nil...); got != api.Green {
		t.Errorf("Worst(nil...) = %d", got)
	}
	numbers := []int{api.Green, api.Yellow, api.Red, -1, 3, -7, 300, math.MaxInt, math.MinInt}
	var step func(l []int, left int)
	step = func(l []int, left int) {
		// Green is the answer where every number is less, too.
		want := slices.Max(append([]int{0}, l...))
		if got := colour.Worst(l...); got != want {
			t.Errorf("Worst(%d) = %d, not %d", l, got, want)
		}
		if left == 0 {
			return
		}
		for _, n := range numbers {
			step(append(slices.Clone(l), n), left-1)
		}
	}
	step(nil, 4)
	long := slices.Repeat([]int{-3}, 1<<16)
	if got := colour.Worst(long...); got != api.Green {
		t.Errorf("Worst of numbers below all = %d", got)
	}
	for _, at := range []int{0, 1, 1 << 15, 1<<16 - 1} {
		some := slices.Clone(long)
		some[at] = api.Red
		if got := colour.Worst(some...); got != api.Red {
			t.Errorf("Worst with Red at %d = %d", at, got)
		}
	}
}

func TestName(t *testing.T) {
	for c, want := range map[int]string{api.Green: "green", api.Yellow: "yellow", api.Red: "red"} {
		if got := colour.Name(c); got != want {
			t.Errorf("Name(%d) = %q, not %q", c, got, want)
		}
	}
	for _, c := range noColours() {
		if got := colour.Name(c); got != "" {
			t.Errorf("Name(%d) = %q", c, got)
		}
	}
}

func TestParse(t *testing.T) {
	for s, want := range map[string]int{"green": api.Green, "yellow": api.Yellow, "red": api.Red} {
		if got, e := colour.Parse(s); got != want || e != api.OK {
			t.Errorf("Parse(%q) = %d, %d, not %d", s, got, e, want)
		}
	}
}

func TestParseErrors(t *testing.T) {
	texts := []string{"", " ", "g", "y", "r", "Green", "GREEN", "Yellow", "RED", "Red", "green ", " green", "red\n", "red\x00", "yellow\r", "green yellow", "greenred",
		"blue", "amber", "0", "1", "2", "3", "-1", "gr\u0117en", "\xff", "\x00", "rouge", strings.Repeat("green", 1<<18), strings.Repeat("\x00", 1<<20)}
	for _, name := range names() {
		for _, s := range almost.Texts(name) {
			if !slices.Contains(names(), s) {
				texts = append(texts, s)
			}
		}
	}
	for _, s := range texts {
		if got, e := colour.Parse(s); got != 0 || e != api.ErrColour {
			t.Errorf("Parse(%.40q) = %d, %d", s, got, e)
		}
	}
}

func TestParseOfName(t *testing.T) {
	for c, name := range names() {
		if got, e := colour.Parse(colour.Name(c)); got != c || e != api.OK {
			t.Errorf("Parse of Name(%d) = %d, %d", c, got, e)
		}
		if got, _ := colour.Parse(name); colour.Name(got) != name {
			t.Errorf("Name of Parse(%q) = %q", name, colour.Name(got))
		}
	}
}

// P31.4

func TestPrint(t *testing.T) {
	if got := colour.Print(colour.Standard()); got != standard {
		t.Errorf("Print of Standard() = %q", got)
	}
	for _, l := range tables() {
		want := ""
		for _, c := range l {
			want += names()[c][:1]
		}
		if got := colour.Print(l); got != want {
			t.Errorf("Print(%d) = %q, not %q", l, got, want)
		}
	}
}

func TestParseAll(t *testing.T) {
	l, fault := colour.ParseAll(standard)
	if !slices.Equal(l, colour.Standard()) || fault != (api.Fault{}) {
		t.Errorf("ParseAll(%q) = %d, %v", standard, l, fault)
	}
	draw := rand.New(rand.NewSource(312))
	for range 1000 {
		var want []int
		s := ""
		for range 64 {
			c := draw.Intn(3)
			want = append(want, c)
			s += names()[c][:1]
		}
		if l, fault := colour.ParseAll(s); !slices.Equal(l, want) || fault != (api.Fault{}) {
			t.Errorf("ParseAll(%q) = %d, %v, not %d", s, l, fault, want)
		}
	}
}

// refusedText holds ParseAll to a text's fault.
func refusedText(t *testing.T, s string, want api.Fault) {
	t.Helper()
	if l, got := colour.ParseAll(s); len(l) != 0 || got != want {
		t.Errorf("ParseAll(%.80q) = %d, %v, not %v", s, l, got, want)
	}
}

func TestTextsOfAnotherLength(t *testing.T) {
	for n := range 300 {
		if n == 64 {
			continue
		}
		want := api.Fault{Errno: api.ErrTable, At: n}
		// The length ranks ahead of the letters.
		for _, letter := range []string{"g", "y", "r", "x", "\x00", "\xff"} {
			refusedText(t, strings.Repeat(letter, n), want)
		}
	}
	refusedText(t, standard+"\n", api.Fault{Errno: api.ErrTable, At: 65})
	refusedText(t, " "+standard, api.Fault{Errno: api.ErrTable, At: 65})
	refusedText(t, standard+standard, api.Fault{Errno: api.ErrTable, At: 128})
	refusedText(t, strings.Repeat("g", 1<<20), api.Fault{Errno: api.ErrTable, At: 1 << 20})
	// So many letters, but more bytes: a letter of more than one byte counts with all of them.
	refusedText(t, standard[:63]+"\u00e9", api.Fault{Errno: api.ErrTable, At: 65})
}

func TestTextsOfOtherLetters(t *testing.T) {
	for at := range 64 {
		for b := range 256 {
			if strings.IndexByte("gyr", byte(b)) >= 0 {
				continue
			}
			want := api.Fault{Errno: api.ErrColour, At: at}
			wrong := standard[:at] + string([]byte{byte(b)})
			refusedText(t, wrong+standard[at+1:], want)
			refusedText(t, wrong+strings.Repeat("x", 63-at), want)
		}
	}
	// The place is that of the byte.
	refusedText(t, standard[:62]+"\u00e9", api.Fault{Errno: api.ErrColour, At: 62})
	refusedText(t, strings.Repeat("\u00e9", 32), api.Fault{Errno: api.ErrColour, At: 0})
	refusedText(t, strings.ToUpper(standard), api.Fault{Errno: api.ErrColour, At: 0})
}

// P31.5

func TestParseAllOfPrint(t *testing.T) {
	for _, l := range tables() {
		s := colour.Print(l)
		got, fault := colour.ParseAll(s)
		if !slices.Equal(got, l) || fault != (api.Fault{}) {
			t.Errorf("ParseAll of Print(%d) = %d, %v", l, got, fault)
		}
		if again := colour.Print(got); again != s {
			t.Errorf("Print of ParseAll(%q) = %q", s, again)
		}
	}
}

// P3, P5

func TestArgumentsStay(t *testing.T) {
	draw := rand.New(rand.NewSource(313))
	for range 500 {
		l := table(draw)
		// What is behind the end is no colour.
		given := append(l, 7, -7, 7)
		if draw.Intn(3) == 0 {
			given[draw.Intn(64)] = 9
		}
		before := slices.Clone(given)
		l = given[:64:len(given)]
		d := draw.Intn(70) - 3
		fault, text, worst := colour.Check(l), colour.Print(l), colour.Worst(l...)
		c, ok := colour.Of(l, d)
		if got := slices.Max(l); worst != got {
			t.Fatalf("Worst(%d) = %d, not %d", l, worst, got)
		}
		again, is := colour.Of(slices.Clone(l), d)
		if fault != colour.Check(l) || text != colour.Print(slices.Clone(l)) || c != again || ok != is {
			t.Fatalf("%d is answered in two ways", l)
		}
		if !slices.Equal(given, before) {
			t.Fatalf("%d became %d", before, given)
		}
	}
}

func TestNothingIsKept(t *testing.T) {
	for range 3 {
		l := colour.Standard()
		if got := colour.Print(l); got != standard {
			t.Errorf("Print of Standard() = %q", got)
		}
		read, fault := colour.ParseAll(standard)
		if got := colour.Print(read); got != standard || fault != (api.Fault{}) {
			t.Errorf("Print of ParseAll = %q, %v", got, fault)
		}
		// What was answered belongs to the caller: to write into it, behind its end, too, changes no later answer.
		for _, out := range [][]int{l[:cap(l)], read[:cap(read)]} {
			for i := range out {
				out[i] = 5
			}
		}
		if c, e := colour.Parse("blue"); c != 0 || e != api.ErrColour {
			t.Errorf("Parse of blue = %d, %d", c, e)
		}
		if c, e := colour.Parse("red"); c != api.Red || e != api.OK {
			t.Errorf("Parse of red = %d, %d", c, e)
		}
	}
}
