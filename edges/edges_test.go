package edges_test

import (
	"math"
	"math/rand"
	"slices"
	"testing"

	"weighbridge/api"
	"weighbridge/edges"
	"weighbridge/span"
)

// last is the greatest port.
const last = 65535

// strange are numbers that are no ports.
func strange() []int {
	return []int{-1, -2, -64, -last, -last - 1, math.MinInt, math.MinInt + 1, last + 1, last + 2, 2 * last, 1 << 32, 1<<32 + 5, math.MaxInt, math.MaxInt - 1}
}

// must tells the table of spans that have one.
func must(t *testing.T, l []api.Span) *edges.Table {
	t.Helper()
	table, f := edges.New(l)
	if table == nil || f != (api.Fault{}) {
		t.Fatalf("New of %d spans = %v, %d", len(l), table, f)
	}
	return table
}

// sets tell, port by port, which of some spans it is in.
func sets(l []api.Span) [][4]uint64 {
	in := make([][4]uint64, last+1)
	for i, s := range l {
		for n := s.Lo; n <= s.Hi; n++ {
			in[n][i/64] |= 1 << (i % 64)
		}
	}
	return in
}

// pieces tell the spans of ports that are in the same spans: where one of these begins or has ended, a port is in other ones than the port ahead of it.
func pieces(in [][4]uint64) []api.Span {
	var l []api.Span
	for n := range in {
		if n == 0 || in[n] != in[n-1] {
			l = append(l, api.Span{Lo: n})
		}
		l[len(l)-1].Hi = n
	}
	return l
}

// words tells how many words a row of so many bits has.
func words(n int) int {
	return (n + 63) / 64
}

// drawnList tells so many spans, of all lengths, some of them the same or next to each other.
func drawnList(draw *rand.Rand, n int) []api.Span {
	var l []api.Span
	for range n {
		lo, longest := draw.Intn(last+1), 1<<draw.Intn(17)
		s := api.Span{Lo: lo, Hi: min(lo+draw.Intn(longest), last)}
		if len(l) > 0 {
			other := l[draw.Intn(len(l))]
			switch draw.Intn(12) {
			case 0:
				s = other
			case 1:
				s = api.Span{Lo: other.Lo, Hi: max(s.Hi, other.Lo)}
			case 2:
				s = api.Span{Lo: min(other.Hi+1, last), Hi: last}
			case 3:
				s = api.Span{Hi: other.Hi}
			case 4:
				s = span.All()
			}
		}
		l = append(l, s)
	}
	return l
}

// lists are lists of spans of all sorts, the same ones in each run.
func lists() [][]api.Span {
	all := span.All()
	l := [][]api.Span{
		nil, {}, {all}, {all, all}, {{Lo: 0, Hi: 0}}, {{Lo: last, Hi: last}}, {{Lo: 0, Hi: last - 1}}, {{Lo: 1, Hi: last}}, {{Lo: 1, Hi: last - 1}}, {{Lo: 10, Hi: 20}, all, {Lo: 15, Hi: 30}},
		{{Lo: 5, Hi: 5}, {Lo: 5, Hi: 5}}, {{Lo: 5, Hi: 9}, {Lo: 10, Hi: 20}}, {{Lo: 10, Hi: 20}, {Lo: 5, Hi: 9}, {Lo: 0, Hi: 4}}, {{Lo: 0, Hi: 0}, {Lo: last, Hi: last}, all}, {{Lo: 53, Hi: 53}, {Lo: 0, Hi: 1023}},
	}
	draw := rand.New(rand.NewSource(20))
	for _, n := range []int{1, 2, 3, 4, 5, 8, 13, 40, 63, 64, 65, 127, 128, 129, 191, 192, 193, 255, 256} {
		l = append(l, drawnList(draw, n))
	}
	every := make([]api.Span, 256)
	single := make([]api.Span, 256)
	for i := range every {
		every[i] = all
		single[i] = api.Span{Lo: 2*i + 1, Hi: 2*i + 1}
	}
	return append(l, every, single)
}

// checkPiece holds Piece of a number.
func checkPiece(t *testing.T, table *edges.Table, n int, want api.Span, has bool) {
	t.Helper()
	if got, ok := table.Piece(n); got != want || ok != has {
		t.Fatalf("Piece(%d) = %d, %v, not %d, %v", n, got, ok, want, has)
	}
}

// checkFind holds Find of a number.
func checkFind(t *testing.T, table *edges.Table, n int, want []uint64) {
	t.Helper()
	if got := table.Find(n); !slices.Equal(got, want) {
		t.Fatalf("Find(%d) = %x, not %x", n, got, want)
	}
}

// P20.1

// checkFault holds New of a list that has no table.
func checkFault(t *testing.T, l []api.Span, want api.Fault) {
	t.Helper()
	if table, f := edges.New(l); table != nil || f != want {
		t.Fatalf("New of %d spans = %v, %d, not %d", len(l), table, f, want)
	}
}

// invalid are spans that are not valid, by what is wrong with them.
func invalid() map[api.Errno][]api.Span {
	return map[api.Errno][]api.Span{
		api.ErrRange: {{Lo: 5, Hi: last + 1}, {Lo: -1, Hi: 5}, {Lo: -1, Hi: last + 1}, {Lo: last + 2, Hi: last + 1}, {Lo: math.MinInt, Hi: math.MaxInt}, {Lo: math.MaxInt}, {Lo: 7, Hi: -1}, {Lo: last + 1, Hi: last + 1}},
		api.ErrOrder: {{Lo: 9, Hi: 5}, {Lo: 1}, {Lo: last}, {Lo: last, Hi: last - 1}},
	}
}

func TestNewOfInvalid(t *testing.T) {
	good := drawnList(rand.New(rand.NewSource(201)), 256)
	for e, bad := range invalid() {
		for _, s := range bad {
			for _, n := range []int{1, 2, 10, 256} {
				for _, at := range []int{0, n / 2, n - 1} {
					l := slices.Clone(good[:n])
					l[at] = s
					checkFault(t, l, api.Fault{Errno: e, At: at})
				}
			}
		}
	}
}

// Of several spans that are not valid the first one counts.
func TestNewOfSeveralInvalid(t *testing.T) {
	good := api.Span{Lo: 5, Hi: 9}
	for e, bad := range invalid() {
		for other, more := range invalid() {
			checkFault(t, []api.Span{good, bad[0], more[1], good}, api.Fault{Errno: e, At: 1})
			checkFault(t, []api.Span{more[0], good, bad[1]}, api.Fault{Errno: other, At: 0})
		}
	}
}

func TestNewOfMany(t *testing.T) {
	for _, n := range []int{257, 258, 512, 5000} {
		l := make([]api.Span, n)
		checkFault(t, l, api.Fault{Errno: api.ErrMany, At: 256})
		if got := must(t, l[:256]).Pieces(); got != 2 {
			t.Errorf("Pieces = %d", got)
		}
		// That there are many ranks ahead of what is wrong with one.
		l[0], l[256] = api.Span{Lo: 9, Hi: 5}, api.Span{Lo: -1}
		checkFault(t, l, api.Fault{Errno: api.ErrMany, At: 256})
	}
}

// P20.2, P20.4 and P20.5: each port of a piece is in the spans of the piece, and the pieces have all ports.

func TestFindAndPieceOfEveryPort(t *testing.T) {
	for _, l := range lists() {
		table, in := must(t, l), sets(l)
		all := pieces(in)
		if got := table.Pieces(); got != len(all) {
			t.Fatalf("of %d Pieces = %d, not %d", l, got, len(all))
		}
		for _, p := range all {
			for n := p.Lo; n <= p.Hi; n++ {
				checkFind(t, table, n, in[n][:words(len(l))])
				checkPiece(t, table, n, p, true)
			}
		}
	}
}

func TestFindAndPieceOfNoPort(t *testing.T) {
	for _, l := range lists() {
		table := must(t, l)
		for _, n := range strange() {
			checkFind(t, table, n, make([]uint64, words(len(l))))
			checkPiece(t, table, n, api.Span{}, false)
		}
	}
}

func TestFind(t *testing.T) {
	table := must(t, []api.Span{{Lo: 10, Hi: 20}, span.All(), {Lo: 15, Hi: 30}})
	for n, want := range map[int]uint64{0: 2, 9: 2, 10: 3, 14: 3, 15: 7, 17: 7, 20: 7, 21: 6, 30: 6, 31: 2, last: 2, -1: 0, last + 1: 0} {
		checkFind(t, table, n, []uint64{want})
	}
}

// P20.3

func TestAll(t *testing.T) {
	for _, l := range lists() {
		want := make([]uint64, words(len(l)))
		for i, s := range l {
			if s.Lo == 0 && s.Hi == last {
				want[i/64] |= 1 << (i % 64)
			}
		}
		if got := must(t, l).All(); !slices.Equal(got, want) {
			t.Errorf("of %d All = %x, not %x", l, got, want)
		}
	}
}

// Spans that have all ports but for one do not have them all, also where several of them have them together.
func TestAllButOne(t *testing.T) {
	l := []api.Span{{Lo: 1, Hi: last}, {Lo: 0, Hi: last - 1}, span.All(), {Lo: 0, Hi: 99}, {Lo: 100, Hi: last}}
	if got := must(t, l).All(); !slices.Equal(got, []uint64{4}) {
		t.Errorf("All = %x", got)
	}
}

// P20.4

func TestPieces(t *testing.T) {
	cases := []struct {
		l    []api.Span
		want []api.Span
	}{
		{nil, []api.Span{{Lo: 0, Hi: last}}}, {[]api.Span{span.All()}, []api.Span{{Lo: 0, Hi: last}}}, {[]api.Span{{Lo: 0, Hi: 0}}, []api.Span{{Lo: 0, Hi: 0}, {Lo: 1, Hi: last}}},
		{[]api.Span{{Lo: last, Hi: last}}, []api.Span{{Lo: 0, Hi: last - 1}, {Lo: last, Hi: last}}}, {[]api.Span{{Lo: 5, Hi: 9}, {Lo: 10, Hi: 20}}, []api.Span{{Lo: 0, Hi: 4}, {Lo: 5, Hi: 9}, {Lo: 10, Hi: 20}, {Lo: 21, Hi: last}}},
		{[]api.Span{{Lo: 10, Hi: 20}, span.All(), {Lo: 15, Hi: 30}}, []api.Span{{Lo: 0, Hi: 9}, {Lo: 10, Hi: 14}, {Lo: 15, Hi: 20}, {Lo: 21, Hi: 30}, {Lo: 31, Hi: last}}},
	}
	for _, c := range cases {
		table := must(t, c.l)
		if got := table.Pieces(); got != len(c.want) {
			t.Errorf("of %d Pieces = %d, not %d", c.l, got, len(c.want))
		}
		for _, p := range c.want {
			for _, n := range []int{p.Lo, (p.Lo + p.Hi) / 2, p.Hi} {
				checkPiece(t, table, n, p, true)
			}
		}
	}
}

// A piece begins where the spans' Starts are.
func TestPiecesBeginAtStarts(t *testing.T) {
	for _, l := range lists() {
		table := must(t, l)
		starts, e := span.Starts(l)
		if e != api.OK || table.Pieces() != len(starts) {
			t.Fatalf("of %d Pieces = %d, not %d", l, table.Pieces(), len(starts))
		}
		for i, lo := range starts {
			hi := last
			if i+1 < len(starts) {
				hi = starts[i+1] - 1
			}
			checkPiece(t, table, lo, api.Span{Lo: lo, Hi: hi}, true)
			checkPiece(t, table, hi, api.Span{Lo: lo, Hi: hi}, true)
		}
	}
}

func TestNil(t *testing.T) {
	var table *edges.Table
	for _, n := range append(strange(), 0, 1, 53, last) {
		if row := table.Find(n); len(row) != 0 {
			t.Errorf("Find(%d) = %x", n, row)
		}
		checkPiece(t, table, n, api.Span{}, false)
	}
	if row, n := table.All(), table.Pieces(); len(row) != 0 || n != 0 {
		t.Errorf("All = %x and Pieces = %d", row, n)
	}
}

// P3 of the general rules

func TestArgumentsStay(t *testing.T) {
	back := []api.Span{{Lo: 30, Hi: 40}, {Lo: 10, Hi: 20}, span.All(), {Lo: -5, Hi: -9}}
	before := slices.Clone(back)
	must(t, back[:2]).Find(15)
	if !slices.Equal(back, before) {
		t.Errorf("the spans became %d", back)
	}
}

// A table is what it was when its list is changed.
func TestListIsNotShared(t *testing.T) {
	l := []api.Span{{Lo: 10, Hi: 20}, span.All(), {Lo: 15, Hi: 30}}
	table, in := must(t, l), sets(l)
	for i := range l {
		l[i] = api.Span{Lo: 17, Hi: 18}
	}
	for n := range 100 {
		checkFind(t, table, n, in[n][:1])
	}
	checkPiece(t, table, 17, api.Span{Lo: 15, Hi: 20}, true)
	if all, n := table.All(), table.Pieces(); !slices.Equal(all, []uint64{2}) || n != 5 {
		t.Errorf("All = %x and Pieces = %d", all, n)
	}
}

// spoil changes each word of a row, and what may lie behind it.
func spoil(row []uint64) {
	row = row[:cap(row)]
	for i := range row {
		row[i] = ^row[i]
	}
}

func TestRowsAreNewMemory(t *testing.T) {
	for _, l := range lists() {
		table, in := must(t, l), sets(l)
		all := slices.Clone(table.All())
		for _, n := range []int{0, 1, 17, 40000, last} {
			spoil(table.Find(n))
			checkFind(t, table, n, in[n][:words(len(l))])
		}
		for _, n := range []int{-1, last + 1} {
			spoil(table.Find(n))
			checkFind(t, table, n, make([]uint64, words(len(l))))
		}
		spoil(table.All())
		if got := table.All(); !slices.Equal(got, all) {
			t.Errorf("All became %x", got)
		}
	}
}

// P5 of the general rules: a table tells the same whatever others there are.
func TestTablesShareNothing(t *testing.T) {
	first := must(t, []api.Span{{Lo: 10, Hi: 20}})
	second := must(t, []api.Span{span.All(), {Lo: 10, Hi: 10}})
	for range 3 {
		checkFind(t, first, 10, []uint64{1})
		checkFind(t, second, 10, []uint64{3})
		checkPiece(t, first, 10, api.Span{Lo: 10, Hi: 20}, true)
		checkPiece(t, second, 10, api.Span{Lo: 10, Hi: 10}, true)
		checkFault(t, []api.Span{{Lo: 9, Hi: 5}}, api.Fault{Errno: api.ErrOrder})
		if a, b := first.All(), second.All(); !slices.Equal(a, []uint64{0}) || !slices.Equal(b, []uint64{1}) {
			t.Errorf("All = %x and %x", a, b)
		}
	}
}
