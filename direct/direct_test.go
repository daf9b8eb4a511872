package direct_test

import (
	"math"
	"math/rand"
	"slices"
	"testing"

	"weighbridge/api"
	"weighbridge/direct"
)

// list is required values, for numbers up to most.
type list struct {
	l    []int
	most int
}

// must tells the table of required values that have one.
func must(t *testing.T, c list) *direct.Table {
	t.Helper()
	table, f := direct.New(c.l, c.most)
	if table == nil || f != (api.Fault{}) {
		t.Fatalf("New(%d, %d) = %v, %d", c.l, c.most, table, f)
	}
	return table
}

// drawn tells so many required values, some of them -1, the ends, or the same as others.
func drawn(draw *rand.Rand, n, most int) []int {
	var l []int
	for i := range n {
		value := draw.Intn(most + 1)
		switch draw.Intn(8) {
		case 0:
			value = -1
		case 1:
			value = draw.Intn(2) * most
		case 2, 3:
			value = append(l, value)[draw.Intn(i+1)]
		}
		l = append(l, value)
	}
	return l
}

// every tells the numbers from one to another one.
func every(from, to int) []int {
	var l []int
	for n := from; n <= to; n++ {
		l = append(l, n)
	}
	return l
}

// lists are required values of all sorts, the same ones in each run.
func lists() []list {
	l := []list{
		{nil, 0}, {nil, 1}, {[]int{}, 255}, {nil, 65535}, {[]int{-1}, 0}, {[]int{0}, 0}, {[]int{0, -1, 0}, 0}, {[]int{-1, -1}, 255}, {[]int{-1, 17, 6, 17}, 255}, {[]int{255, 0}, 255}, {[]int{63, -1, 0}, 63},
		{[]int{65535}, 65535}, {[]int{0, 65535, -1}, 65535}, {every(0, 255), 255}, {every(-1, 254), 255}, {every(-1, 254), 254}, {every(65280, 65535), 65535}, {every(0, 63), 63}, {every(-1, 63), 63},
	}
	for _, n := range []int{63, 64, 65, 128, 255, 256} {
		l = append(l, list{slices.Repeat([]int{-1}, n), 9}, list{slices.Repeat([]int{7}, n), 9})
	}
	draw := rand.New(rand.NewSource(21))
	for _, n := range []int{1, 2, 3, 5, 8, 40, 63, 64, 65, 127, 128, 129, 191, 192, 193, 255, 256} {
		for _, most := range []int{0, 1, 2, 9, 63, 64, 255, 256, 1000} {
			l = append(l, list{drawn(draw, n, most), most})
		}
	}
	return append(l, list{drawn(draw, 256, 65535), 65535}, list{drawn(draw, 10, 65535), 65535})
}

// strange are numbers that no table is for.
func strange() []int {
	return []int{-1, -2, -64, -65535, -65536, math.MinInt, math.MinInt + 1, 65536, 65537, 1 << 32, 1<<32 + 17, math.MaxInt, math.MaxInt - 1}
}

// reference tells which required values a number satisfies, in a row.
func reference(c list, n int) []uint64 {
	row := make([]uint64, (len(c.l)+63)/64)
	for i, value := range c.l {
		if 0 <= n && n <= c.most && (value == n || value == -1) {
			row[i/64] |= 1 << (i % 64)
		}
	}
	return row
}

// check holds Find of a number.
func check(t *testing.T, table *direct.Table, c list, n int) {
	t.Helper()
	want := reference(c, n)
	if got := table.Find(n); !slices.Equal(got, want) {
		t.Fatalf("of %d up to %d Find(%d) = %x, not %x", c.l, c.most, n, got, want)
	}
}

// P21.1

// checkFault holds New of required values that have no table.
func checkFault(t *testing.T, l []int, most int, want api.Fault) {
	t.Helper()
	if table, f := direct.New(l, most); table != nil || f != want {
		t.Fatalf("New of %d up to %d = %v, %d, not %d", len(l), most, table, f, want)
	}
}

// What is wrong with the greatest number ranks ahead of what is wrong with the list.
func TestNewOfWrongMost(t *testing.T) {
	for _, most := range strange() {
		for _, l := range [][]int{nil, {}, {0}, {-1}, {5, 6}, {-2}, {0, math.MaxInt}, {most}, make([]int, 256), make([]int, 257), slices.Repeat([]int{-2}, 300)} {
			checkFault(t, l, most, api.Fault{Errno: api.ErrRange, At: 0})
		}
	}
	for _, most := range []int{0, 1, 63, 255, 65534, 65535} {
		must(t, list{[]int{-1, 0, most}, most})
	}
}

func TestNewOfMany(t *testing.T) {
	for _, most := range []int{0, 255, 65535} {
		for _, n := range []int{257, 258, 512, 5000} {
			l := make([]int, n)
			checkFault(t, l, most, api.Fault{Errno: api.ErrMany, At: 256})
			must(t, list{l[:256], most})
			// That there are many ranks ahead of what is wrong with one.
			l[0], l[256] = -2, 65536
			checkFault(t, l, most, api.Fault{Errno: api.ErrMany, At: 256})
		}
	}
}

func TestNewOfInvalid(t *testing.T) {
	draw := rand.New(rand.NewSource(211))
	for _, most := range []int{0, 1, 63, 255, 1000, 65534, 65535} {
		good := drawn(draw, 256, most)
		for _, bad := range []int{-2, -3, math.MinInt, most + 1, most + 2, 65536, 1 << 32, math.MaxInt} {
			for _, n := range []int{1, 2, 10, 64, 256} {
				for _, at := range []int{0, n / 2, n - 1} {
					l := slices.Clone(good[:n])
					l[at] = bad
					checkFault(t, l, most, api.Fault{Errno: api.ErrRange, At: at})
					// Of several ones the first counts, whatever is wrong with it.
					l[n-1] = -2
					checkFault(t, l, most, api.Fault{Errno: api.ErrRange, At: at})
				}
			}
		}
	}
	checkFault(t, []int{5, 6, -2, 10, 9}, 9, api.Fault{Errno: api.ErrRange, At: 2})
	checkFault(t, []int{5, 6, 10, -2, 9}, 9, api.Fault{Errno: api.ErrRange, At: 2})
}

// P21.2

func TestFind(t *testing.T) {
	table := must(t, list{[]int{-1, 17, 6, 17}, 255})
	for n, want := range map[int]uint64{17: 11, 6: 5, 0: 1, 5: 1, 7: 1, 16: 1, 18: 1, 254: 1, 255: 1, 256: 0, -1: 0, -2: 0, 17 + 256: 0, 17 - 256: 0, math.MaxInt: 0, math.MinInt: 0} {
		if got := table.Find(n); !slices.Equal(got, []uint64{want}) {
			t.Errorf("Find(%d) = %x, not %x", n, got, want)
		}
	}
}

func TestFindOfEveryNumber(t *testing.T) {
	for _, c := range lists() {
		table := must(t, c)
		for n := -3; n <= c.most+3; n++ {
			check(t, table, c, n)
		}
		for _, n := range strange() {
			check(t, table, c, n)
		}
	}
}

// P21.3

func TestMostAndFree(t *testing.T) {
	cases := []struct {
		c    list
		free int
	}{
		{list{[]int{-1, 17, 6, 17}, 255}, 254}, {list{nil, 0}, 1}, {list{nil, 255}, 256}, {list{nil, 65535}, 65536}, {list{[]int{0}, 0}, 0}, {list{[]int{-1}, 0}, 1}, {list{[]int{-1, 0, -1}, 0}, 0},
		{list{[]int{-1, -1, -1}, 255}, 256}, {list{every(0, 255), 255}, 0}, {list{every(-1, 254), 255}, 1}, {list{every(1, 255), 255}, 1}, {list{[]int{65535, 0, 65535}, 65535}, 65534}, {list{[]int{5, 5, 5}, 9}, 9},
	}
	for _, c := range cases {
		table := must(t, c.c)
		if most, free := table.Most(), table.Free(); most != c.c.most || free != c.free {
			t.Errorf("of %d up to %d Most = %d and Free = %d, not %d", c.c.l, c.c.most, most, free, c.free)
		}
	}
}

func TestMostAndFreeOfDrawnLists(t *testing.T) {
	for _, c := range lists() {
		table := must(t, c)
		free := 0
		for n := range c.most + 1 {
			if !slices.Contains(c.l, n) {
				free++
			}
		}
		for range 2 {
			if got, n := table.Most(), table.Free(); got != c.most || n != free {
				t.Fatalf("of %d up to %d Most = %d and Free = %d, not %d", c.l, c.most, got, n, free)
			}
			// What is looked for takes no number.
			table.Find(0)
			table.Find(c.most)
			table.Find(c.most + 1)
			table.Find(-1)
		}
	}
}

func TestNil(t *testing.T) {
	var table *direct.Table
	for _, n := range append(strange(), 0, 1, 17, 255, 65535) {
		if row := table.Find(n); len(row) != 0 {
			t.Errorf("Find(%d) = %x", n, row)
		}
	}
	if most, free := table.Most(), table.Free(); most != 0 || free != 0 {
		t.Errorf("Most = %d and Free = %d", most, free)
	}
}

// P21.4

func TestFoundForItsOwnNumberAlone(t *testing.T) {
	const most = 300
	any := must(t, list{[]int{-1}, most})
	for value := range most + 1 {
		own := must(t, list{[]int{value}, most})
		for n := -2; n <= most+2; n++ {
			if got := own.Find(n)[0] == 1; got != (n == value) {
				t.Fatalf("Find(%d) of %d = %v", n, value, got)
			}
		}
		if got := any.Find(value); !slices.Equal(got, []uint64{1}) {
			t.Fatalf("Find(%d) of -1 = %x", value, got)
		}
	}
}

// P3 of the general rules

func TestArgumentsStay(t *testing.T) {
	back := []int{17, -1, 6, 300, -5}
	must(t, list{back[:3], 255}).Find(17)
	if !slices.Equal(back, []int{17, -1, 6, 300, -5}) {
		t.Errorf("the required values became %d", back)
	}
}

// A table is what it was when its list is changed.
func TestListIsNotShared(t *testing.T) {
	l := []int{-1, 17, 6, 17}
	before := list{slices.Clone(l), 255}
	table := must(t, list{l, 255})
	for i := range l {
		l[i] = 18
	}
	for n := -1; n <= 256; n++ {
		check(t, table, before, n)
	}
	if got := table.Free(); got != 254 {
		t.Errorf("Free = %d", got)
	}
}

func TestRowsAreNewMemory(t *testing.T) {
	for _, c := range lists() {
		table := must(t, c)
		for _, n := range []int{-1, 0, 6, 7, 17, c.most, c.most + 1} {
			row := table.Find(n)
			row = row[:cap(row)]
			for i := range row {
				row[i] = ^row[i]
			}
			check(t, table, c, n)
			check(t, table, c, 0)
		}
	}
}

// P5 of the general rules: a table tells the same whatever others there are.
func TestTablesShareNothing(t *testing.T) {
	one, other := list{[]int{17, -1}, 255}, list{[]int{-1, -1, 17, 0}, 17}
	first, second := must(t, one), must(t, other)
	for range 3 {
		for n := -1; n <= 256; n++ {
			check(t, first, one, n)
			check(t, second, other, n)
		}
		checkFault(t, []int{256}, 255, api.Fault{Errno: api.ErrRange})
		if a, b := first.Free(), second.Free(); a != 255 || b != 16 {
			t.Errorf("Free = %d and %d", a, b)
		}
		if a, b := first.Most(), second.Most(); a != 255 || b != 17 {
			t.Errorf("Most = %d and %d", a, b)
		}
	}
}
