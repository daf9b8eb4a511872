package extwalk_test

import (
	"bytes"
	"math"
	"math/rand"
	"reflect"
	"slices"
	"testing"

	"weighbridge/api"
	"weighbridge/extwalk"
)

// kinds tells the kinds of extension headers.
func kinds() []int {
	return []int{0, 43, 44, 51, 60, 135, 139, 140}
}

// odd are numbers that are no byte.
func odd() []int {
	return []int{-1, -44, 256, 256 + 44, 1 << 32, 1<<32 + 43, math.MinInt, math.MaxInt, math.MinInt + 60}
}

// length tells how many bytes an extension header has whose second byte is n.
func length(kind, n int) int {
	switch kind {
	case 44:
		return 8
	case 51:
		return 4 * (n + 2)
	}
	return 8 * (n + 1)
}

// header tells an extension header with its second byte, all others unlike each other, and what follows it; a fragment header has offset 0.
func header(kind, n, next int) []byte {
	b := make([]byte, length(kind, n))
	for i := range b {
		b[i] = byte(7*i + kind)
	}
	b[0], b[1] = byte(next), byte(n)
	if kind == 44 {
		b[2], b[3] = 0, 0
	}
	return b
}

// split tells a fragment header; beside the offset is any number of three bits.
func split(offset, low, next int) []byte {
	b := header(44, 0, next)
	b[2], b[3] = byte(offset>>5), byte(offset<<3|low)
	return b
}

// chain tells the smallest headers of kinds, one after the other, and then a protocol.
func chain(proto int, kinds ...int) []byte {
	var b []byte
	for i := range kinds {
		b = append(b, header(kinds[i], 0, append(kinds, proto)[i+1])...)
	}
	return b
}

// step is a header of a walk: its kind, and its bytes from one place to another.
type step struct {
	kind, from, to int
}

// fragment tells whether a step is one over a fragment header.
func fragment(s step) bool { return s.kind == 44 }

// steps tells the headers that a walk passes, where those ahead end at a place, the number at which it ends, and its defect (Sound: none).
func steps(kind int, b []byte, at int, ahead []step) ([]step, int, api.Defect) {
	switch {
	case !slices.Contains(kinds(), kind):
		return ahead, kind, api.Sound
	case len(ahead) == 8:
		return ahead, kind, api.DefMany
	case len(b) < at+8 || len(b) < at+length(kind, int(b[at+1])):
		return ahead, kind, api.DefExt
	}
	next, end := int(b[at]), at+length(kind, int(b[at+1]))
	later := kind == 44 && !slices.ContainsFunc(ahead, fragment) && int(b[at+2])*256+int(b[at+3]) > 7
	ahead = append(ahead, step{kind, at, end})
	if later {
		return ahead, next, api.Sound
	}
	return steps(next, b, end, ahead)
}

// exact tells what Go and List must answer.
func exact(kind int, b []byte) (api.Walk, []api.Defect, []api.Ext) {
	l, proto, end := steps(kind, b, 0, nil)
	w := api.Walk{Proto: proto, Count: len(l)}
	var exts []api.Ext
	var hop, twice, long bool
	for i, s := range l {
		exts = append(exts, api.Ext{Kind: s.kind, Body: b[s.from+2 : s.to]})
		hop = hop || s.kind == 0 && i > 0
		w.At = s.to
	}
	if i := slices.IndexFunc(l, fragment); i >= 0 {
		twice = slices.ContainsFunc(l[i+1:], fragment)
		number := int(b[l[i].from+2])*256 + int(b[l[i].from+3])
		w.Offset = number / 8
		long = w.Offset*8+len(b)-l[i].to >= 65536
		if w.Offset > 0 {
			w.Frag = api.Later
		} else if number%2 == 1 {
			w.Frag = api.First
		}
	}
	var defects []api.Defect
	for d, applies := range map[api.Defect]bool{api.DefExt: end == api.DefExt, api.DefHop: hop, api.DefMany: end == api.DefMany, api.DefTwice: twice, api.DefEnd: long} {
		if applies {
			defects = append(defects, d)
		}
	}
	slices.Sort(defects)
	if defects != nil {
		w = api.Walk{}
	}
	return w, defects, exts
}

// alike tells whether extension headers are the same, be their bodies nil or empty.
func alike(a, b []api.Ext) bool {
	return slices.EqualFunc(a, b, func(x, y api.Ext) bool { return x.Kind == y.Kind && bytes.Equal(x.Body, y.Body) })
}

// check holds Go and List against the reference.
func check(t *testing.T, kind int, b []byte) {
	t.Helper()
	w, defects, exts := exact(kind, b)
	if got, l := extwalk.Go(kind, b); got != w || !slices.Equal(l, defects) {
		t.Errorf("Go(%d, %x) = %v, %d, not %v, %d", kind, b[:min(len(b), 99)], got, l, w, defects)
	}
	if got := extwalk.List(kind, b); !alike(got, exts) {
		t.Errorf("List(%d, %x) = %v, not %v", kind, b[:min(len(b), 99)], got, exts)
	}
}

// finds holds the defects of Go against a list, with which there is no walk.
func finds(t *testing.T, kind int, b []byte, want ...api.Defect) {
	t.Helper()
	w, l := extwalk.Go(kind, b)
	if !slices.Equal(l, want) || len(want) > 0 && w != (api.Walk{}) {
		t.Errorf("Go(%d, %x) = %v, %d, not %d", kind, b[:min(len(b), 99)], w, l, want)
	}
	check(t, kind, b)
}

// P11.1

func TestIs(t *testing.T) {
	for kind := -300; kind <= 1000; kind++ {
		if got := extwalk.Is(kind); got != slices.Contains(kinds(), kind) {
			t.Errorf("Is(%d) = %v", kind, got)
		}
	}
	for _, kind := range odd() {
		if extwalk.Is(kind) {
			t.Errorf("Is(%d)", kind)
		}
	}
}

func TestSize(t *testing.T) {
	cases := []struct {
		kind int
		b    []byte
		n    int
	}{
		{0, []byte{0, 0, 0, 0, 0, 0, 0, 0}, 8}, {0, append([]byte{17, 1}, make([]byte, 14)...), 16}, {0, append([]byte{17, 1}, make([]byte, 13)...), 0}, {43, append([]byte{17, 2}, make([]byte, 30)...), 24},
		{44, []byte{17, 255, 0, 0, 0, 0, 0, 0}, 8}, {44, append([]byte{17, 1}, make([]byte, 30)...), 8}, {44, []byte{17, 0, 0, 0, 0, 0, 0}, 0},
		{51, []byte{17, 0, 0, 0, 0, 0, 0, 0}, 8}, {51, append([]byte{17, 1}, make([]byte, 10)...), 12}, {51, append([]byte{17, 1}, make([]byte, 9)...), 0}, {51, append([]byte{17, 255}, make([]byte, 1026)...), 1028},
		{60, append([]byte{17, 255}, make([]byte, 2046)...), 2048}, {60, append([]byte{17, 255}, make([]byte, 2045)...), 0}, {17, make([]byte, 99), 0}, {0, nil, 0}, {50, make([]byte, 99), 0}, {59, make([]byte, 99), 0},
	}
	for _, c := range cases {
		if n, ok := extwalk.Size(c.kind, c.b); n != c.n || ok != (c.n > 0) {
			t.Errorf("Size(%d, %x) = %d, %v, not %d", c.kind, c.b, n, ok, c.n)
		}
	}
}

func TestSizeOfEveryKindAndLength(t *testing.T) {
	for _, kind := range kinds() {
		for n := range 256 {
			whole := header(kind, n, 17)
			for _, size := range []int{0, 1, 2, 7, 8, 9, len(whole) - 4, len(whole) - 1, len(whole), len(whole) + 1, len(whole) + 99} {
				b := append(slices.Clone(whole), make([]byte, 99)...)[:max(size, 0)]
				want := len(whole)
				if len(b) < 8 || len(b) < len(whole) {
					want = 0
				}
				if got, ok := extwalk.Size(kind, b); got != want || ok != (want > 0) {
					t.Errorf("Size(%d, %d bytes with %d) = %d, %v, not %d", kind, len(b), n, got, ok, want)
				}
			}
		}
	}
}

func TestSizeOfNoKind(t *testing.T) {
	no := odd()
	for kind := range 256 {
		if !slices.Contains(kinds(), kind) {
			no = append(no, kind)
		}
	}
	for _, kind := range no {
		for _, b := range [][]byte{nil, make([]byte, 8), make([]byte, 99), bytes.Repeat([]byte{0, 1}, 50)} {
			if n, ok := extwalk.Size(kind, b); n != 0 || ok {
				t.Errorf("Size(%d, %x) = %d, %v", kind, b, n, ok)
			}
		}
	}
}

// P11.2 and P11.3

func TestGo(t *testing.T) {
	data := []byte{9, 8, 7}
	cases := []struct {
		kind int
		b    []byte
		want api.Walk
	}{
		{0, slices.Concat(header(0, 0, 44), split(1, 0, 17)), api.Walk{Proto: 17, At: 16, Frag: api.Later, Offset: 1, Count: 2}},
		{0, slices.Concat(header(0, 0, 44), split(1, 0, 17), data), api.Walk{Proto: 17, At: 16, Frag: api.Later, Offset: 1, Count: 2}},
		{17, nil, api.Walk{Proto: 17}}, {17, data, api.Walk{Proto: 17}}, {59, data, api.Walk{Proto: 59}}, {50, make([]byte, 99), api.Walk{Proto: 50}}, {255, data, api.Walk{Proto: 255}},
		{0, header(0, 0, 6), api.Walk{Proto: 6, At: 8, Count: 1}}, {0, slices.Concat(header(0, 3, 6), data), api.Walk{Proto: 6, At: 32, Count: 1}}, {51, header(51, 4, 59), api.Walk{Proto: 59, At: 24, Count: 1}},
		{60, slices.Concat(header(60, 1, 51), header(51, 1, 135), header(135, 2, 58), data), api.Walk{Proto: 58, At: 52, Count: 3}},
		{44, split(0, 0, 17), api.Walk{Proto: 17, At: 8, Count: 1}}, {44, split(0, 1, 17), api.Walk{Proto: 17, At: 8, Frag: api.First, Count: 1}},
		{44, split(0, 6, 17), api.Walk{Proto: 17, At: 8, Count: 1}}, {44, split(0, 7, 17), api.Walk{Proto: 17, At: 8, Frag: api.First, Count: 1}},
		{44, split(1, 1, 17), api.Walk{Proto: 17, At: 8, Frag: api.Later, Offset: 1, Count: 1}}, {44, split(8191, 6, 17), api.Walk{Proto: 17, At: 8, Frag: api.Later, Offset: 8191, Count: 1}},
		{44, split(0x1234, 0, 17), api.Walk{Proto: 17, At: 8, Frag: api.Later, Offset: 0x1234, Count: 1}},
		{44, slices.Concat(split(0, 1, 60), header(60, 1, 17), data), api.Walk{Proto: 17, At: 24, Frag: api.First, Count: 2}},
		// What stands behind a later fragment is no header, even if its number is one of them.
		{44, split(1, 1, 60), api.Walk{Proto: 60, At: 8, Frag: api.Later, Offset: 1, Count: 1}}, {44, slices.Concat(split(2, 0, 0), header(0, 0, 17)), api.Walk{Proto: 0, At: 8, Frag: api.Later, Offset: 2, Count: 1}},
		{44, slices.Concat(split(2, 0, 44), split(0, 1, 17)), api.Walk{Proto: 44, At: 8, Frag: api.Later, Offset: 2, Count: 1}},
	}
	for _, c := range cases {
		if w, l := extwalk.Go(c.kind, c.b); w != c.want || len(l) != 0 {
			t.Errorf("Go(%d, %x) = %v, %d, not %v", c.kind, c.b, w, l, c.want)
		}
		check(t, c.kind, c.b)
	}
}

func TestGoFromOtherNumbers(t *testing.T) {
	for kind := range 256 {
		check(t, kind, header(60, 0, 17))
	}
	for _, kind := range odd() {
		if w, l := extwalk.Go(kind, header(60, 0, 17)); w != (api.Walk{Proto: kind}) || len(l) != 0 {
			t.Errorf("Go(%d) = %v, %d", kind, w, l)
		}
		if l := extwalk.List(kind, header(60, 0, 17)); len(l) != 0 {
			t.Errorf("List(%d) = %v", kind, l)
		}
	}
}

func TestGoOverEveryPair(t *testing.T) {
	for _, first := range kinds() {
		for next := range 256 {
			check(t, first, append(header(first, 1, next), header(60, 0, 17)...))
			check(t, first, append(header(first, 0, next), header(60, 1, 60)...))
			check(t, first, header(first, 0, next))
		}
	}
}

func TestGoCutOff(t *testing.T) {
	for _, kind := range kinds() {
		finds(t, kind, nil, api.DefExt)
		finds(t, kind, []byte{}, api.DefExt)
		finds(t, kind, header(kind, 0, 17)[:7], api.DefExt)
		finds(t, kind, header(kind, 0, 17))
	}
	finds(t, 0, header(0, 1, 17)[:15], api.DefExt)
	finds(t, 51, header(51, 1, 17)[:11], api.DefExt)
	finds(t, 51, header(51, 1, 17)[:12])
	finds(t, 60, header(60, 0, 43), api.DefExt)
	whole := slices.Concat(header(0, 1, 60), header(60, 2, 44), split(0, 1, 51), header(51, 3, 17))
	for n := range whole {
		finds(t, 0, whole[:n], api.DefExt)
	}
	finds(t, 0, whole)
}

func TestGoOverHops(t *testing.T) {
	finds(t, 0, chain(17, 0))
	finds(t, 0, chain(17, 0, 60, 43))
	finds(t, 0, chain(17, 0, 0), api.DefHop)
	finds(t, 60, chain(17, 60, 0), api.DefHop)
	finds(t, 60, chain(17, 60, 43, 0, 60, 0), api.DefHop)
	finds(t, 44, chain(17, 44, 0), api.DefHop)
	// One that was not passed is none.
	finds(t, 60, chain(0, 60), api.DefExt)
	finds(t, 44, append(split(1, 0, 0), header(0, 0, 17)...))
	finds(t, 60, chain(17, 60, 60, 60, 60, 60, 60, 60, 60, 0), api.DefMany)
}

func TestGoOverMany(t *testing.T) {
	for _, kind := range []int{43, 51, 60, 135, 139, 140} {
		for n := 1; n <= 12; n++ {
			b, l := chain(17, slices.Repeat([]int{kind}, n)...), []api.Defect{api.DefMany}
			if n <= 8 {
				l = nil
			}
			finds(t, kind, b, l...)
			if got := len(extwalk.List(kind, b)); got != min(n, 8) {
				t.Errorf("List of %d headers has %d", n, got)
			}
		}
	}
	eight := chain(60, 60, 60, 60, 60, 60, 60, 60, 60)
	// There is a ninth header, or only its number, or a part of it: they are too many already.
	finds(t, 60, eight, api.DefMany)
	finds(t, 60, append(eight, 17, 0, 0), api.DefMany)
	finds(t, 60, append(eight, header(60, 0, 17)...), api.DefMany)
	finds(t, 60, append(eight, 17, 200, 0, 0, 0, 0, 0, 0), api.DefMany)
	finds(t, 60, eight[:63], api.DefExt)
	// The eighth header is a later fragment's: the walk ends behind it.
	finds(t, 60, append(chain(44, 60, 60, 60, 60, 60, 60, 60), split(3, 0, 60)...))
	finds(t, 60, append(chain(44, 60, 60, 60, 60, 60, 60, 60), split(0, 0, 60)...), api.DefMany)
	finds(t, 0, chain(17, 0, 60, 43, 44, 51, 135, 139, 140))
}

func TestGoOverTwoFragments(t *testing.T) {
	finds(t, 44, chain(17, 44, 44), api.DefTwice)
	finds(t, 44, chain(17, 44, 60, 44), api.DefTwice)
	finds(t, 44, chain(17, 44, 44, 44), api.DefTwice)
	// Only the first one's offset ends a walk.
	finds(t, 44, append(split(0, 1, 44), split(1, 0, 17)...), api.DefTwice)
	finds(t, 44, slices.Concat(split(0, 1, 44), split(1, 0, 0), header(0, 0, 17)), api.DefHop, api.DefTwice)
	finds(t, 44, slices.Concat(split(0, 1, 44), split(1, 0, 60)), api.DefExt, api.DefTwice)
	finds(t, 44, slices.Concat(split(1, 1, 44), split(0, 0, 17)))
	finds(t, 44, slices.Concat(split(0, 1, 44), split(8191, 0, 17), make([]byte, 99)), api.DefTwice)
	finds(t, 44, slices.Concat(split(0, 0, 44), split(8191, 0, 44), split(8190, 0, 17), make([]byte, 99)), api.DefTwice)
	// One that was not passed is none.
	finds(t, 44, chain(44, 44), api.DefExt)
	finds(t, 44, append(chain(44, 44), 17, 0, 0, 0, 0, 0, 0), api.DefExt)
	finds(t, 44, chain(17, 44, 60, 60, 60, 60, 60, 60, 60, 44), api.DefMany)
}

func TestGoToTheEnd(t *testing.T) {
	for _, c := range []struct{ offset, behind int }{{8191, 7}, {8190, 15}, {4096, 32767}, {1, 65527}, {2, 65519}, {0, 65535}} {
		for _, ahead := range [][]byte{nil, header(0, 3, 44)} {
			kind := 44
			if ahead != nil {
				kind = 0
			}
			b := slices.Concat(ahead, split(c.offset, 1, 17), make([]byte, c.behind))
			finds(t, kind, b)
			finds(t, kind, append(b, 0), api.DefEnd)
			finds(t, kind, append(b, make([]byte, 70000)...), api.DefEnd)
		}
	}
	// Headers behind the fragment header are behind it, too.
	b := slices.Concat(split(0, 1, 60), header(60, 0, 17), make([]byte, 65527))
	finds(t, 44, b)
	finds(t, 44, append(b, 0), api.DefEnd)
	// Without a fragment header there is no end.
	finds(t, 17, make([]byte, 70000))
	finds(t, 60, append(header(60, 0, 17), make([]byte, 70000)...))
	// Where it is cut off, what is behind it is told by the bytes that are there.
	finds(t, 44, append(split(0, 0, 60), 17, 255), api.DefExt)
}

func TestGoOverAllAtOnce(t *testing.T) {
	long := make([]byte, 70000)
	finds(t, 60, slices.Concat(chain(17, 60, 0), long), api.DefHop)
	finds(t, 60, slices.Concat(header(60, 0, 0), header(0, 0, 44), split(0, 0, 44), split(0, 0, 60), []byte{1, 2, 3}), api.DefExt, api.DefHop, api.DefTwice)
	finds(t, 60, slices.Concat(header(60, 0, 0), header(0, 0, 44), split(0, 0, 44), split(0, 0, 17), long), api.DefHop, api.DefTwice, api.DefEnd)
	finds(t, 60, slices.Concat(header(60, 0, 0), header(0, 0, 44), split(8191, 0, 44), split(0, 0, 17)), api.DefHop, api.DefEnd)
	finds(t, 44, slices.Concat(chain(60, 44, 44, 0, 60, 60, 60, 60, 60), long), api.DefHop, api.DefMany, api.DefTwice, api.DefEnd)
	finds(t, 0, slices.Concat(chain(60, 0, 0, 60, 60, 60, 60, 60, 60), long), api.DefHop, api.DefMany)
}

// draw tells a chain of drawn headers, right or nearly right, and the kind of its first one.
func draw(d *rand.Rand) (int, []byte) {
	var b []byte
	all := append(kinds(), 44, 0, 60, 17)
	first := all[d.Intn(len(all))]
	for kind, more := first, d.Intn(13); more > 0; more-- {
		next := all[d.Intn(len(all)-d.Intn(2))]
		h := header(kind, d.Intn(2)*d.Intn(4), next)
		d.Read(h[2:])
		if kind == 44 {
			h = split(d.Intn(2)*d.Intn(2)*d.Intn(8192), d.Intn(8), next)
		}
		b, kind = append(b, h...), next
	}
	switch d.Intn(4) {
	case 0:
		b = b[:d.Intn(len(b)+1)]
	case 1:
		b = append(b, make([]byte, d.Intn(40))...)
	}
	return first, b
}

func TestGoOverDrawnChains(t *testing.T) {
	d := rand.New(rand.NewSource(11))
	for range 60000 {
		kind, b := draw(d)
		check(t, kind, b)
	}
}

func TestGoOverDrawnBytes(t *testing.T) {
	d := rand.New(rand.NewSource(12))
	for range 60000 {
		b := make([]byte, d.Intn(120))
		for i := range b {
			b[i] = byte(kinds()[d.Intn(8)])
			if d.Intn(3) > 0 {
				b[i] = byte(d.Intn(3))
			}
		}
		check(t, kinds()[d.Intn(8)], b)
	}
}

// P11.4

func TestList(t *testing.T) {
	b := slices.Concat([]byte{44, 0, 1, 2, 3, 4, 5, 6}, []byte{51, 99, 0, 1, 7, 8, 9, 10}, []byte{60, 1, 1, 1, 2, 2, 3, 3, 4, 4, 5, 5}, []byte{17, 9, 9, 9})
	want := []api.Ext{{Kind: 0, Body: []byte{1, 2, 3, 4, 5, 6}}, {Kind: 44, Body: []byte{0, 1, 7, 8, 9, 10}}, {Kind: 51, Body: []byte{1, 1, 2, 2, 3, 3, 4, 4, 5, 5}}}
	// The last header is cut off: the others are told.
	if got := extwalk.List(0, b); !alike(got, want) {
		t.Errorf("List = %v", got)
	}
	for n, many := range map[int]int{27: 2, 16: 2, 15: 1, 8: 1, 7: 0, 0: 0} {
		if got := extwalk.List(0, b[:n]); !alike(got, want[:many]) {
			t.Errorf("List of %d bytes = %v", n, got)
		}
	}
	if got := extwalk.List(17, b); len(got) != 0 {
		t.Errorf("List of none = %v", got)
	}
	if got := extwalk.List(44, chain(17, 44, 0, 44, 0)); len(got) != 4 || got[0].Kind != 44 || got[1].Kind != 0 || got[2].Kind != 44 || got[3].Kind != 0 {
		t.Errorf("List of hops and fragments = %v", got)
	}
	if got := extwalk.List(44, append(split(1, 0, 60), header(60, 0, 17)...)); len(got) != 1 || got[0].Kind != 44 {
		t.Errorf("List of a later fragment = %v", got)
	}
}

// P11.5

// ext tells an extension header that has so many bytes.
func ext(kind, size int) api.Ext {
	return api.Ext{Kind: kind, Body: bytes.Repeat([]byte{0xa5}, size-2)}
}

// eights tells headers of eight bytes.
func eights(kinds ...int) []api.Ext {
	var l []api.Ext
	for _, kind := range kinds {
		l = append(l, ext(kind, 8))
	}
	return l
}

func TestWrite(t *testing.T) {
	l := []api.Ext{
		{Kind: 0, Body: []byte{1, 2, 3, 4, 5, 6}}, {Kind: 44, Body: []byte{0, 1, 7, 8, 9, 10}}, {Kind: 51, Body: []byte{1, 1, 2, 2, 3, 3, 4, 4, 5, 5}},
		{Kind: 60, Body: []byte{0, 0, 0, 0, 0, 0, 0, 0, 0, 0, 0, 0, 0, 9}},
	}
	want := slices.Concat([]byte{44, 0, 1, 2, 3, 4, 5, 6}, []byte{51, 0, 0, 1, 7, 8, 9, 10}, []byte{60, 1, 1, 1, 2, 2, 3, 3, 4, 4, 5, 5}, []byte{17, 1, 0, 0, 0, 0, 0, 0, 0, 0, 0, 0, 0, 0, 0, 9})
	if got, f := extwalk.Write(l, 17); !bytes.Equal(got, want) || f != (api.Fault{}) {
		t.Errorf("Write = %x, %v", got, f)
	}
	for _, none := range [][]api.Ext{nil, {}} {
		if got, f := extwalk.Write(none, 17); len(got) != 0 || f != (api.Fault{}) {
			t.Errorf("Write of none = %x, %v", got, f)
		}
	}
}

func TestWriteOfEveryProtocol(t *testing.T) {
	for proto := range 256 {
		got, f := extwalk.Write(eights(60), proto)
		if slices.Contains(kinds(), proto) {
			refuses(t, eights(60), proto, api.ErrRange, 0)
			refuses(t, nil, proto, api.ErrRange, 0)
			continue
		}
		if want := append([]byte{byte(proto), 0}, ext(60, 8).Body...); !bytes.Equal(got, want) || f != (api.Fault{}) {
			t.Errorf("Write ahead of %d = %x, %v", proto, got, f)
		}
	}
	for _, proto := range odd() {
		refuses(t, nil, proto, api.ErrRange, 0)
		refuses(t, eights(60), proto, api.ErrRange, 0)
	}
}

// right tells whether an extension header may have so many bytes.
func right(kind, size int) bool {
	switch kind {
	case 44:
		return size == 8
	case 51:
		return 8 <= size && size <= 1028 && size%4 == 0
	}
	return 8 <= size && size <= 2048 && size%8 == 0
}

func TestWriteOfEveryLength(t *testing.T) {
	for _, kind := range kinds() {
		for size := 2; size <= 2200; size++ {
			x := ext(kind, size)
			if !right(kind, size) {
				refuses(t, []api.Ext{x}, 17, api.ErrForm, 0)
				continue
			}
			got, f := extwalk.Write([]api.Ext{x}, 17)
			if len(got) != size || got[0] != 17 || length(kind, int(got[1])) != size || kind == 44 && got[1] != 0 || !bytes.Equal(got[2:], x.Body) || f != (api.Fault{}) {
				t.Errorf("Write of kind %d and %d bytes = %x, %v", kind, size, got, f)
			}
		}
	}
	for _, kind := range kinds() {
		for _, size := range []int{4096, 1 << 16, 1<<16 + 8, 1 << 20} {
			refuses(t, []api.Ext{ext(kind, size)}, 17, api.ErrForm, 0)
		}
		refuses(t, []api.Ext{{Kind: kind}}, 17, api.ErrForm, 0)
	}
}

func refuses(t *testing.T, l []api.Ext, proto int, e api.Errno, at int) {
	t.Helper()
	if got, f := extwalk.Write(l, proto); got != nil || f != (api.Fault{Errno: e, At: at}) {
		t.Errorf("Write of %d headers ahead of %d = %x, %v, not %d at %d", len(l), proto, got, f, e, at)
	}
}

func TestWriteOfMany(t *testing.T) {
	for n := range 12 {
		l := eights(slices.Repeat([]int{60}, n)...)
		if n > 8 {
			refuses(t, l, 17, api.ErrMany, 8)
			continue
		}
		if got, f := extwalk.Write(l, 17); len(got) != 8*n || f != (api.Fault{}) {
			t.Errorf("Write of %d headers = %x, %v", n, got, f)
		}
	}
	refuses(t, make([]api.Ext, 1000), 17, api.ErrMany, 8)
	refuses(t, eights(17, 17, 17, 17, 17, 17, 17, 17, 17), 17, api.ErrMany, 8)
	refuses(t, eights(0, 0, 44, 44, 60, 60, 60, 60, 60), 17, api.ErrMany, 8)
	refuses(t, make([]api.Ext, 9), 60, api.ErrRange, 0)
}

func TestWriteOfWrongElements(t *testing.T) {
	for kind := range 256 {
		if !slices.Contains(kinds(), kind) {
			refuses(t, eights(kind), 17, api.ErrKind, 0)
			refuses(t, eights(0, 60, kind), 17, api.ErrKind, 2)
		}
	}
	for _, kind := range odd() {
		refuses(t, eights(kind), 17, api.ErrKind, 0)
		refuses(t, eights(60, kind), 17, api.ErrKind, 1)
	}
	refuses(t, eights(0, 0), 17, api.ErrOrder, 1)
	refuses(t, eights(60, 0), 17, api.ErrOrder, 1)
	refuses(t, eights(60, 43, 51, 135, 139, 140, 44, 0), 17, api.ErrOrder, 7)
	refuses(t, eights(44, 44), 17, api.ErrTwice, 1)
	refuses(t, eights(0, 44, 60, 51, 44), 17, api.ErrTwice, 4)
	refuses(t, eights(60, 44, 60, 60, 60, 60, 60, 44), 17, api.ErrTwice, 7)
}

func TestWriteNamesTheFirstError(t *testing.T) {
	// Of one element.
	refuses(t, []api.Ext{ext(17, 9)}, 17, api.ErrKind, 0)
	refuses(t, []api.Ext{{Kind: 17}}, 17, api.ErrKind, 0)
	refuses(t, []api.Ext{ext(60, 8), ext(0, 9)}, 17, api.ErrForm, 1)
	refuses(t, []api.Ext{ext(44, 8), ext(44, 16)}, 17, api.ErrForm, 1)
	// Of several elements, whichever error is named first.
	refuses(t, []api.Ext{ext(60, 9), ext(17, 8)}, 17, api.ErrForm, 0)
	refuses(t, []api.Ext{ext(60, 8), ext(0, 8), ext(17, 8), ext(60, 9)}, 17, api.ErrOrder, 1)
	refuses(t, []api.Ext{ext(44, 8), ext(44, 8), ext(0, 8), ext(17, 8)}, 17, api.ErrTwice, 1)
	refuses(t, []api.Ext{ext(44, 9), ext(44, 8)}, 17, api.ErrForm, 0)
	// Of the whole.
	refuses(t, eights(17, 0, 0), 44, api.ErrRange, 0)
	refuses(t, eights(17, 0, 0), -1, api.ErrRange, 0)
}

// P11.6

// drawn tells headers that can be written; none follows that of a later fragment.
func drawn(d *rand.Rand) []api.Ext {
	var l []api.Ext
	fragmented := false
	for range d.Intn(9) {
		kind := kinds()[d.Intn(8)]
		if kind == 0 && len(l) > 0 || kind == 44 && fragmented {
			continue
		}
		size := length(kind, d.Intn(1+d.Intn(256)))
		body := make([]byte, size-2)
		d.Read(body)
		l = append(l, api.Ext{Kind: kind, Body: body})
		if kind == 44 {
			fragmented = true
			if d.Intn(3) > 0 {
				body[0], body[1] = 0, body[1]&7
			}
			if body[0] != 0 || body[1] > 7 {
				break
			}
		}
	}
	return l
}

func TestTheWalkPassesWhatWriteWrote(t *testing.T) {
	d := rand.New(rand.NewSource(13))
	for range 5000 {
		l, proto := drawn(d), 6+11*d.Intn(2)
		b, f := extwalk.Write(l, proto)
		if f != (api.Fault{}) {
			t.Fatalf("Write(%v) = %v", l, f)
		}
		kind := proto
		if len(l) > 0 {
			kind = l[0].Kind
		}
		w, defects := extwalk.Go(kind, b)
		if len(defects) != 0 || w.Proto != proto || w.At != len(b) || w.Count != len(l) {
			t.Fatalf("Go(%d, %x) = %v, %d", kind, b, w, defects)
		}
		if got := extwalk.List(kind, append(b, 1, 2, 3)); !alike(got, l) {
			t.Fatalf("List(%d, %x) = %v, not %v", kind, b, got, l)
		}
		check(t, kind, b)
	}
}

func TestWhereTheWalkEnds(t *testing.T) {
	d := rand.New(rand.NewSource(14))
	ended := 0
	for range 60000 {
		kind, b := draw(d)
		w, defects := extwalk.Go(kind, b)
		if len(defects) > 0 {
			continue
		}
		ended++
		if w.At < 0 || w.At > len(b) || slices.Contains(kinds(), w.Proto) && w.Frag != api.Later || w.Count > 8 || w.Count != len(extwalk.List(kind, b)) {
			t.Fatalf("Go(%d, %x) = %v", kind, b, w)
		}
	}
	if ended < 1000 {
		t.Errorf("only %d walks are without defects", ended)
	}
}

// P3 of the general rules

func TestArgumentsStay(t *testing.T) {
	whole := slices.Concat(header(0, 1, 60), header(60, 2, 44), split(0, 1, 51), header(51, 3, 17), make([]byte, 40))
	kept := bytes.Clone(whole)
	l := extwalk.List(0, whole)
	for i := range l {
		l[i].Body = append(l[i].Body, make([]byte, 50)...)[:len(l[i].Body)]
	}
	other := make([]api.Ext, len(l))
	for i := range l {
		other[i] = api.Ext{Kind: l[i].Kind, Body: bytes.Clone(l[i].Body[:cap(l[i].Body)])}
	}
	for n := range whole {
		extwalk.Size(0, whole[:n])
		extwalk.Go(0, whole[:n])
		extwalk.List(0, whole[:n])
		extwalk.Write(l[:n%len(l)], 17)
	}
	extwalk.Write(l, 17)
	if !bytes.Equal(whole, kept) {
		t.Errorf("the bytes became %x", whole)
	}
	for i := range l {
		if l[i].Kind != other[i].Kind || !bytes.Equal(l[i].Body[:cap(l[i].Body)], other[i].Body) {
			t.Errorf("header %d became %v", i, l[i])
		}
	}
}

// spoil changes all that a slice has room for.
func spoil(b []byte) {
	b = b[:cap(b)]
	for i := range b {
		b[i] ^= 0xff
	}
}

func TestResultsAreNewMemory(t *testing.T) {
	b := slices.Concat(header(0, 1, 60), header(60, 2, 44), split(0, 1, 51), header(51, 3, 17), make([]byte, 9))
	kept, want := bytes.Clone(b), extwalk.List(0, b)
	first := extwalk.List(0, b)
	for i, x := range first {
		spoil(x.Body)
		if !alike(first[i+1:], want[i+1:]) {
			t.Errorf("header %d shares its body with another one", i)
		}
	}
	if !bytes.Equal(b, kept) {
		t.Errorf("a result shares memory with the argument: %x", b)
	}
	if again := extwalk.List(0, b); !alike(again, want) || len(want) != 4 {
		t.Errorf("List = %v, not %v", again, want)
	}
	one := []api.Ext{ext(60, 8)}
	wrote, _ := extwalk.Write(one, 17)
	spoil(wrote)
	if !alike(one, []api.Ext{ext(60, 8)}) {
		t.Errorf("what was written shares memory with the argument: %v", one)
	}
	if again, f := extwalk.Write(one, 17); !bytes.Equal(again, append([]byte{17, 0}, one[0].Body...)) || f != (api.Fault{}) {
		t.Errorf("Write = %x, %v", again, f)
	}
	_, defects := extwalk.Go(44, chain(17, 44, 44, 0))
	for i := range defects {
		defects[i] = 99
	}
	finds(t, 44, chain(17, 44, 44, 0), api.DefHop, api.DefTwice)
}

func TestOnlyTheLengthCounts(t *testing.T) {
	whole := slices.Concat(header(0, 1, 60), header(60, 2, 44), split(0, 1, 51), header(51, 3, 17), header(60, 0, 0))
	told := func(b []byte) []any {
		size, ok := extwalk.Size(0, b)
		w, defects := extwalk.Go(0, b)
		wrote, f := extwalk.Write([]api.Ext{{Kind: 51, Body: b}}, 17)
		return []any{size, ok, w, defects, extwalk.List(0, b), wrote, f}
	}
	for n := range whole {
		if got, want := told(whole[:n]), told(bytes.Clone(whole[:n:n])); !reflect.DeepEqual(got, want) {
			t.Errorf("of %d bytes %v is told, not %v", n, got, want)
		}
	}
	l := eights(60, 60, 44, 44)
	if got, f := extwalk.Write(l[:3], 17); len(got) != 24 || got[16] != 17 || f != (api.Fault{}) {
		t.Errorf("Write = %x, %v", got, f)
	}
}

// P5 of the general rules: a call answers the same whatever was called ahead of it.
func TestNothingIsKept(t *testing.T) {
	for range 3 {
		finds(t, 44, chain(17, 44, 0, 44), api.DefHop, api.DefTwice)
		finds(t, 44, chain(17, 44))
		finds(t, 60, nil, api.DefExt)
		refuses(t, eights(44, 44), 17, api.ErrTwice, 1)
		if got, f := extwalk.Write(eights(44), 17); len(got) != 8 || f != (api.Fault{}) {
			t.Errorf("Write = %x, %v", got, f)
		}
		if w, l := extwalk.Go(17, nil); w != (api.Walk{Proto: 17}) || len(l) != 0 {
			t.Errorf("Go = %v, %d", w, l)
		}
	}
}
