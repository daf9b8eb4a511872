package trie_test

import (
	"fmt"
	"math"
	"math/rand"
	"net/netip"
	"slices"
	"strings"
	"testing"

	"weighbridge/api"
	"weighbridge/trie"
)

// size is how many bits an address of a version has.
var size = map[int]int{4: 32, 6: 128}

// strange are versions of which there are no prefixes.
func strange() []int {
	return []int{0, 1, 2, 3, 5, 7, 8, 10, 46, -1, -4, -6, 256 + 4, 1<<32 + 4, math.MaxInt, math.MinInt, math.MinInt + 6}
}

// digits tells an address's bits.
func digits(a [16]byte) string {
	var out [128]byte
	for i := range out {
		out[i] = '0' + a[i/8]>>(7-i%8)&1
	}
	return string(out[:])
}

// of tells the prefix of a version with those bits.
func of(v int, bits string) api.Prefix {
	p := api.Prefix{V: v, Len: len(bits)}
	for i := range bits {
		if bits[i] == '1' {
			p.Addr[i/8] |= 128 >> (i % 8)
		}
	}
	return p
}

// parsed tells prefixes from their texts, by the library.
func parsed(texts ...string) []api.Prefix {
	var l []api.Prefix
	for _, s := range texts {
		p := netip.MustParsePrefix(s)
		out := api.Prefix{V: 6, Len: p.Bits()}
		copy(out.Addr[:], p.Addr().AsSlice())
		if p.Addr().Is4() {
			out.V = 4
		}
		l = append(l, out)
	}
	return l
}

// four tells an address of version 4, with other bytes behind it.
func four(a, b, c, d byte) [16]byte {
	return [16]byte{a, b, c, d, 170, 85, 255, 0, 1, 2, 3, 4, 5, 6, 7, 255}
}

// must tells the trie of prefixes that have one.
func must(t *testing.T, l []api.Prefix) *trie.Trie {
	t.Helper()
	tr, f := trie.New(l)
	if tr == nil || f != (api.Fault{}) {
		t.Fatalf("New of %d prefixes = %v, %d", len(l), tr, f)
	}
	return tr
}

// drawnAddress tells an address, often with long runs of equal bits.
func drawnAddress(draw *rand.Rand) [16]byte {
	var a [16]byte
	draw.Read(a[:])
	if draw.Intn(2) == 0 {
		for i := range a {
			a[i] = byte(255 * draw.Intn(2))
		}
	}
	return a
}

// drawnList tells so many prefixes of both versions, many of them within others or the same as others.
func drawnList(draw *rand.Rand, n int) []api.Prefix {
	var l []api.Prefix
	for range n {
		v := 4 + 2*draw.Intn(2)
		bits := digits(drawnAddress(draw))
		length := draw.Intn(size[v] + 1)
		if draw.Intn(8) == 0 {
			length = size[v]
		}
		if len(l) > 0 && draw.Intn(3) > 0 {
			other := l[draw.Intn(len(l))]
			if draw.Intn(4) == 0 {
				l = append(l, other)
				continue
			}
			// The first bits of another one, and of the other version, too.
			at := draw.Intn(size[other.V] + 1)
			bits = digits(other.Addr)[:at] + bits[at:]
		}
		l = append(l, of(v, bits[:length]))
	}
	return l
}

// lists are lists of prefixes of all sorts, the same ones in each run.
func lists() [][]api.Prefix {
	l := [][]api.Prefix{
		nil, {}, parsed("0.0.0.0/0"), parsed("::/0"), parsed("0.0.0.0/0", "::/0"), parsed("::/0", "0.0.0.0/0", "::/0"), parsed("1.2.3.4/32"), parsed("255.255.255.255/32", "0.0.0.0/32"),
		parsed("ffff:ffff:ffff:ffff:ffff:ffff:ffff:ffff/128", "::/128", "::1/128", "::/127"), parsed("10.0.0.0/8", "10.128.0.0/9", "::/0"), parsed("10.0.0.0/8", "a00::/8", "10.0.0.0/8", "a00::/8"),
		parsed("128.0.0.0/1", "0.0.0.0/1", "8000::/1"), parsed("2001:db8::/32", "2001:db8::1:0:0:1/128", "2001::/16", "32.1.13.184/32"),
	}
	for _, n := range []int{63, 64, 65, 128, 255, 256} {
		same := make([]api.Prefix, n)
		for i := range same {
			same[i] = of(4, "00001010")
		}
		l = append(l, same)
	}
	draw := rand.New(rand.NewSource(19))
	for n := range 40 {
		l = append(l, drawnList(draw, 1+n))
	}
	for _, n := range []int{63, 64, 65, 127, 128, 129, 191, 192, 193, 255, 256} {
		l = append(l, drawnList(draw, n))
	}
	return l
}

// addresses are addresses in and near prefixes: of each its own, the one with all bits behind it set, and some of which one bit is another one.
func addresses(draw *rand.Rand, l []api.Prefix) [][16]byte {
	out := [][16]byte{{}, {0: 128}, {3: 1}, {15: 1}, four(255, 255, 255, 255), drawnAddress(draw), drawnAddress(draw)}
	for _, p := range l {
		noise := digits(drawnAddress(draw))
		full := of(6, digits(p.Addr)[:p.Len]+strings.Repeat("1", 128-p.Len)).Addr
		out = append(out, p.Addr, full, of(6, digits(p.Addr)[:p.Len]+noise[p.Len:]).Addr)
		for _, at := range []int{p.Len - 1, p.Len, draw.Intn(128), draw.Intn(p.Len + 1)} {
			if 0 <= at && at < 128 {
				a := full
				a[at/8] ^= 128 >> (at % 8)
				out = append(out, a)
			}
		}
	}
	return out
}

// reference tells which of prefixes an address has, in a row, and the first of the longest ones.
func reference(l []api.Prefix, v int, bits string) ([]uint64, int) {
	row, longest := make([]uint64, (len(l)+63)/64), -1
	for i, p := range l {
		if p.V != v || bits[:p.Len] != digits(p.Addr)[:p.Len] {
			continue
		}
		row[i/64] |= 1 << (i % 64)
		if longest < 0 || p.Len > l[longest].Len {
			longest = i
		}
	}
	return row, longest
}

// check holds Find and Longest of an address.
func check(t *testing.T, tr *trie.Trie, l []api.Prefix, v int, a [16]byte) {
	t.Helper()
	row, longest := reference(l, v, digits(a))
	if got := tr.Find(v, a); !slices.Equal(got, row) {
		t.Fatalf("of %v Find(%d, %x) = %x, not %x", l, v, a, got, row)
	}
	if got := tr.Longest(v, a); got != longest {
		t.Fatalf("of %v Longest(%d, %x) = %d, not %d", l, v, a, got, longest)
	}
}

// P19.1

// invalid are prefixes that are not valid, by what is wrong with them.
func invalid() map[api.Errno][]api.Prefix {
	return map[api.Errno][]api.Prefix{
		api.ErrVersion: {{}, {V: 5, Len: 8}, {V: -4}, {V: math.MaxInt, Len: -1}, {V: math.MinInt}, {V: 46, Addr: [16]byte{1}}},
		api.ErrRange:   {{V: 4, Len: -1}, {V: 4, Len: 33}, {V: 6, Len: -1}, {V: 6, Len: 129}, {V: 4, Len: 128}, {V: 6, Len: math.MaxInt}, {V: 4, Len: math.MinInt, Addr: [16]byte{15: 1}}},
		api.ErrBits:    {{V: 4, Addr: [16]byte{10, 32, 0, 1}, Len: 11}, {V: 4, Addr: [16]byte{4: 1}, Len: 32}, {V: 6, Addr: [16]byte{15: 1}, Len: 127}, {V: 4, Addr: [16]byte{128}}, {V: 4, Addr: [16]byte{15: 1}, Len: 8}},
	}
}

// checkFault holds New of a list that has no trie.
func checkFault(t *testing.T, l []api.Prefix, want api.Fault) {
	t.Helper()
	if tr, f := trie.New(l); tr != nil || f != want {
		t.Fatalf("New of %d prefixes = %v, %d, not %d", len(l), tr, f, want)
	}
}

func TestNewOfInvalid(t *testing.T) {
	good := drawnList(rand.New(rand.NewSource(191)), 256)
	for e, bad := range invalid() {
		for _, p := range bad {
			for _, n := range []int{1, 2, 10, 256} {
				for _, at := range []int{0, n / 2, n - 1} {
					l := slices.Clone(good[:n])
					l[at] = p
					checkFault(t, l, api.Fault{Errno: e, At: at})
				}
			}
		}
	}
}

// Of several prefixes that are not valid the first one counts.
func TestNewOfSeveralInvalid(t *testing.T) {
	good := of(4, "0000")
	for e, bad := range invalid() {
		for other, more := range invalid() {
			checkFault(t, []api.Prefix{good, bad[0], more[1], good}, api.Fault{Errno: e, At: 1})
			checkFault(t, []api.Prefix{more[0], good, bad[1]}, api.Fault{Errno: other, At: 0})
		}
	}
}

func TestNewOfMany(t *testing.T) {
	for _, n := range []int{257, 258, 512, 5000} {
		l := make([]api.Prefix, n)
		// That there are many ranks ahead of what is wrong with one.
		checkFault(t, l, api.Fault{Errno: api.ErrMany, At: 256})
		for i := range l {
			l[i] = of(6, "1")
		}
		checkFault(t, l, api.Fault{Errno: api.ErrMany, At: 256})
		must(t, l[:256])
	}
}

// P19.2

func TestLen(t *testing.T) {
	for _, l := range lists() {
		if got := must(t, l).Len(); got != len(l) {
			t.Errorf("Len = %d, not %d", got, len(l))
		}
	}
}

func TestFindAndLongest(t *testing.T) {
	cases := []struct {
		l       []api.Prefix
		v       int
		a       [16]byte
		row     []uint64
		longest int
	}{
		{parsed("10.0.0.0/8", "10.128.0.0/9", "::/0"), 4, four(10, 200, 0, 0), []uint64{3}, 1}, {parsed("10.0.0.0/8", "10.128.0.0/9", "::/0"), 4, four(10, 100, 0, 0), []uint64{1}, 0},
		{parsed("10.0.0.0/8", "10.128.0.0/9", "::/0"), 4, four(11, 200, 0, 0), []uint64{0}, -1}, {parsed("10.0.0.0/8", "10.128.0.0/9", "::/0"), 6, four(10, 200, 0, 0), []uint64{4}, 2},
		{parsed("10.0.0.0/8", "10.128.0.0/9", "::/0"), 5, four(10, 200, 0, 0), []uint64{0}, -1}, {nil, 4, four(1, 2, 3, 4), nil, -1}, {nil, 6, [16]byte{}, nil, -1}, {nil, 0, [16]byte{}, nil, -1},
		{parsed("1.2.3.4/32", "0.0.0.0/0", "1.2.3.4/32"), 4, four(1, 2, 3, 4), []uint64{7}, 0}, {parsed("0.0.0.0/0", "1.2.3.4/32", "1.2.3.4/32"), 4, four(1, 2, 3, 4), []uint64{7}, 1},
		{parsed("0.0.0.0/0", "1.2.3.4/32", "0.0.0.0/0"), 4, four(1, 2, 3, 5), []uint64{5}, 0}, {parsed("::1/128", "::/127", "::/128"), 6, [16]byte{15: 1}, []uint64{3}, 0},
	}
	for _, c := range cases {
		tr := must(t, c.l)
		if row, longest := tr.Find(c.v, c.a), tr.Longest(c.v, c.a); !slices.Equal(row, c.row) || longest != c.longest {
			t.Errorf("of %v Find(%d, %x) = %x and Longest = %d, not %x and %d", c.l, c.v, c.a, row, longest, c.row, c.longest)
		}
	}
}

func TestFindAndLongestOfDrawnAddresses(t *testing.T) {
	draw := rand.New(rand.NewSource(192))
	for _, l := range lists() {
		tr := must(t, l)
		for _, a := range addresses(draw, l) {
			check(t, tr, l, 4, a)
			check(t, tr, l, 6, a)
		}
		for _, v := range strange() {
			check(t, tr, l, v, [16]byte{})
			check(t, tr, l, v, drawnAddress(draw))
		}
	}
}

// P19.3

func TestNodes(t *testing.T) {
	cases := []struct {
		l    []api.Prefix
		want int
	}{
		{nil, 0}, {parsed("0.0.0.0/0"), 1}, {parsed("::/0"), 1}, {parsed("::/0", "0.0.0.0/0"), 2}, {parsed("::/0", "::/0"), 1}, {parsed("1.2.3.4/32"), 33}, {parsed("::/128"), 129},
		{parsed("10.0.0.0/8", "10.128.0.0/9", "::/0"), 11}, {parsed("10.128.0.0/9", "10.0.0.0/8"), 10}, {parsed("10.0.0.0/9", "10.128.0.0/9"), 11}, {parsed("0.0.0.0/1", "128.0.0.0/1"), 3},
		{parsed("10.0.0.0/8", "a00::/8"), 18}, {parsed("255.255.255.255/32", "255.255.255.254/32"), 34}, {parsed("::/128", "8000::/128"), 257},
	}
	for _, c := range cases {
		if got := must(t, c.l).Nodes(); got != c.want {
			t.Errorf("of %v Nodes = %d, not %d", c.l, got, c.want)
		}
	}
}

func TestNodesOfDrawnLists(t *testing.T) {
	for _, l := range lists() {
		fronts := map[string]bool{}
		for _, p := range l {
			for n := range p.Len + 1 {
				fronts[fmt.Sprint(p.V, "/", digits(p.Addr)[:n])] = true
			}
		}
		tr := must(t, l)
		if got := tr.Nodes(); got != len(fronts) {
			t.Errorf("of %v Nodes = %d, not %d", l, got, len(fronts))
		}
		// What is looked for leaves no nodes behind.
		tr.Find(4, four(1, 2, 3, 4))
		tr.Longest(6, [16]byte{15: 1})
		if got := tr.Nodes(); got != len(fronts) {
			t.Errorf("Nodes became %d", got)
		}
	}
}

func TestNil(t *testing.T) {
	var tr *trie.Trie
	for _, v := range append(strange(), 4, 6) {
		for _, a := range [][16]byte{{}, four(10, 1, 2, 3)} {
			if row, longest := tr.Find(v, a), tr.Longest(v, a); len(row) != 0 || longest != -1 {
				t.Errorf("Find(%d, %x) = %x and Longest = %d", v, a, row, longest)
			}
		}
	}
	if n, nodes := tr.Len(), tr.Nodes(); n != 0 || nodes != 0 {
		t.Errorf("Len = %d and Nodes = %d", n, nodes)
	}
}

// P19.4

// Each bit of a prefix counts, none behind it does, and no other version has it.
func TestFoundForItsAddressesAlone(t *testing.T) {
	draw := rand.New(rand.NewSource(194))
	for v, most := range size {
		for n := range most + 1 {
			p := of(v, digits(drawnAddress(draw))[:n])
			tr := must(t, []api.Prefix{p})
			for at := range 128 {
				a := p.Addr
				a[at/8] ^= 128 >> (at % 8)
				check(t, tr, []api.Prefix{p}, v, a)
				if found := tr.Find(v, a)[0] == 1; found != (at >= n) {
					t.Fatalf("of %v Find(%d, %x) = %v", p, v, a, found)
				}
			}
			check(t, tr, []api.Prefix{p}, v, p.Addr)
			check(t, tr, []api.Prefix{p}, 10-v, p.Addr)
		}
	}
}

// P3 of the general rules

func TestArgumentsStay(t *testing.T) {
	back := append(parsed("10.0.0.0/8", "::/0", "1.2.3.4/32", "10.128.0.0/9"), api.Prefix{V: 99, Len: -1})
	before := slices.Clone(back)
	must(t, back[:3]).Find(4, four(10, 1, 2, 3))
	if !slices.Equal(back, before) {
		t.Errorf("the prefixes became %v", back)
	}
}

// A trie is what it was when its list is changed.
func TestListIsNotShared(t *testing.T) {
	l := parsed("10.0.0.0/8", "10.128.0.0/9", "::/0")
	tr := must(t, l)
	before := slices.Clone(l)
	for i := range l {
		l[i] = of(4, "11")
	}
	for _, a := range [][16]byte{four(10, 200, 0, 0), four(10, 1, 0, 0), four(200, 0, 0, 0)} {
		check(t, tr, before, 4, a)
		check(t, tr, before, 6, a)
	}
	if n, nodes := tr.Len(), tr.Nodes(); n != 3 || nodes != 11 {
		t.Errorf("Len = %d and Nodes = %d", n, nodes)
	}
}

func TestRowsAreNewMemory(t *testing.T) {
	for _, l := range [][]api.Prefix{parsed("10.0.0.0/8"), parsed("10.0.0.0/8", "0.0.0.0/0", "::/0"), parsed("::/0"), drawnList(rand.New(rand.NewSource(193)), 200)} {
		tr := must(t, l)
		for _, v := range []int{4, 6, 5} {
			row := tr.Find(v, four(10, 1, 2, 3))
			row = row[:cap(row)]
			for i := range row {
				row[i] = ^row[i]
			}
			check(t, tr, l, v, four(10, 1, 2, 3))
		}
	}
}

// P5 of the general rules: a trie tells the same whatever others there are.
func TestTriesShareNothing(t *testing.T) {
	one, other := parsed("10.0.0.0/8", "::/0"), parsed("::/0", "10.0.0.0/7", "10.0.0.0/8")
	first := must(t, one)
	second := must(t, other)
	for range 3 {
		for _, v := range []int{4, 6} {
			check(t, first, one, v, four(10, 1, 2, 3))
			check(t, second, other, v, four(10, 1, 2, 3))
		}
		checkFault(t, []api.Prefix{{V: 4, Len: 40}}, api.Fault{Errno: api.ErrRange})
		if a, b := first.Nodes(), second.Nodes(); a != 10 || b != 10 {
			t.Errorf("Nodes = %d and %d", a, b)
		}
	}
}
