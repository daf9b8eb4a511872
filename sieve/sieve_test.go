package sieve_test

import (
	"math"
	"math/rand"
	"slices"
	"sync"
	"testing"

	"weighbridge/api"
	"weighbridge/prefix"
	"weighbridge/rule"
	"weighbridge/sieve"
)

// ports is the span of all ports.
func ports() api.Span {
	return api.Span{Lo: 0, Hi: 65535}
}

// must tells the sieve of rules that have one.
func must(t *testing.T, l []api.Rule) *sieve.Sieve {
	t.Helper()
	s, f := sieve.New(l)
	if s == nil || f != (api.Fault{}) {
		t.Fatalf("New of %d rules = %v, %d", len(l), s, f)
	}
	return s
}

// with tells the rule that requires nothing, but for what is changed.
func with(v, class int, change func(r *api.Rule)) api.Rule {
	r := rule.Any(v, class)
	change(&r)
	return r
}

// example is the rules of the document's example.
func example() []api.Rule {
	return []api.Rule{
		with(4, 5, func(r *api.Rule) { r.DstPort = api.Span{Lo: 53, Hi: 53} }), with(4, 0, func(r *api.Rule) { r.Dscp = 46 }), rule.Any(4, 9),
	}
}

// odd are numbers that are beyond what some or all rules require, and some that are not.
func odd() []int {
	return []int{-1, -2, 0, 1, 6, 17, 46, 53, 63, 64, 65, 132, 255, 256, 257, 65535, 65536, math.MinInt, math.MaxInt, 1 << 32, 1<<32 + 17}
}

// pick tells one of some.
func pick[T any](draw *rand.Rand, l ...T) T {
	return l[draw.Intn(len(l))]
}

// drawnPrefix tells a prefix of a version, one of few, many of them within others.
func drawnPrefix(draw *rand.Rand, v int) api.Prefix {
	a := [16]byte{pick(draw, byte(10), 10, 10, 192), pick(draw, byte(0), 128), 0, pick(draw, byte(1), 2)}
	n := pick(draw, 0, 0, 7, 8, 9, 32)
	if v == 6 {
		a[15] = pick(draw, byte(0), 1)
		n = pick(draw, n, n, 64, 127, 128)
	}
	p, _ := prefix.Make(v, a, n)
	return p
}

// drawnSpan tells a span, often that of all ports.
func drawnSpan(draw *rand.Rand) api.Span {
	return pick(draw, ports(), ports(), api.Span{Lo: 53, Hi: 53}, api.Span{Lo: 0, Hi: 1023}, api.Span{Lo: 1024, Hi: 65535}, api.Span{Lo: 0, Hi: 65534}, api.Span{Lo: 1, Hi: 65535}, api.Span{}, api.Span{Lo: draw.Intn(99), Hi: 99})
}

// drawnRules tells so many rules of both versions.
func drawnRules(draw *rand.Rand, n int) []api.Rule {
	var l []api.Rule
	for range n {
		v := pick(draw, 4, 6)
		l = append(l, api.Rule{
			Src: drawnPrefix(draw, v), Dst: drawnPrefix(draw, v), SrcPort: drawnSpan(draw), DstPort: drawnSpan(draw),
			Proto: pick(draw, -1, -1, 6, 17, 0, 255, draw.Intn(256)), Dscp: pick(draw, -1, -1, 46, 0, 63, draw.Intn(64)), Class: draw.Intn(16),
		})
	}
	return l
}

// lists are rules of all sorts, the same ones in each run.
func lists() [][]api.Rule {
	l := [][]api.Rule{nil, {}, example(), {rule.Any(4, 0)}, {rule.Any(6, 15), rule.Any(4, 1), rule.Any(6, 2)}}
	for _, n := range []int{63, 64, 65, 255, 256} {
		l = append(l, slices.Repeat([]api.Rule{rule.Any(6, 3)}, n))
	}
	draw := rand.New(rand.NewSource(22))
	for n := range 30 {
		l = append(l, drawnRules(draw, 1+n))
	}
	for _, n := range []int{63, 64, 65, 127, 128, 129, 191, 192, 193, 255, 256} {
		l = append(l, drawnRules(draw, n))
	}
	return l
}

// keyOf tells a key that matches a valid rule.
func keyOf(draw *rand.Rand, r api.Rule) api.Key {
	k := api.Key{
		V: r.Src.V, Src: r.Src.Addr, Dst: r.Dst.Addr, Proto: r.Proto, Dscp: r.Dscp, Ports: true,
		SrcPort: pick(draw, r.SrcPort.Lo, r.SrcPort.Hi, (r.SrcPort.Lo+r.SrcPort.Hi)/2), DstPort: pick(draw, r.DstPort.Lo, r.DstPort.Hi, (r.DstPort.Lo+r.DstPort.Hi)/2),
	}
	if r.Proto == -1 {
		k.Proto = pick(draw, odd()...)
	}
	if r.Dscp == -1 {
		k.Dscp = pick(draw, odd()...)
	}
	if r.SrcPort == ports() && r.DstPort == ports() {
		k.Ports = pick(draw, false, true)
	}
	return k
}

// keys tells keys that match rules, and those of which one part is another one.
func keys(draw *rand.Rand, l []api.Rule) []api.Key {
	out := []api.Key{{}, {V: 4}, {V: 6}, {V: 4, Ports: true}, {V: -4}, {V: 4, Proto: -1, Dscp: -1}, {V: 6, Proto: -1, Dscp: -1, Ports: true, SrcPort: -1, DstPort: 65536}}
	for _, r := range l {
		changes := []func(k *api.Key){
			func(*api.Key) {}, func(k *api.Key) { k.V = pick(draw, odd()...) }, func(k *api.Key) { k.V = 10 - k.V },
			func(k *api.Key) { k.Src[draw.Intn(16)] ^= 1 << draw.Intn(8) }, func(k *api.Key) { k.Dst[draw.Intn(16)] ^= 1 << draw.Intn(8) },
			func(k *api.Key) { k.SrcPort = pick(draw, odd()...) }, func(k *api.Key) { k.DstPort = pick(draw, odd()...) }, func(k *api.Key) { k.Ports = !k.Ports },
			func(k *api.Key) { k.Proto = pick(draw, odd()...) }, func(k *api.Key) { k.Dscp = pick(draw, odd()...) },
		}
		for _, change := range changes {
			k := keyOf(draw, r)
			change(&k)
			out = append(out, k)
		}
	}
	return out
}

// reference tells, part by part, which of rules require nothing of it or are satisfied.
func reference(l []api.Rule, k api.Key) [6][]uint64 {
	var rows [6][]uint64
	for part := range rows {
		rows[part] = make([]uint64, (len(l)+63)/64)
	}
	port := func(s api.Span, n int) bool {
		return s == ports() || k.Ports && s.Lo <= n && n <= s.Hi
	}
	for i, r := range l {
		for part, ok := range [6]bool{
			prefix.Has(r.Src, k.V, k.Src), prefix.Has(r.Dst, k.V, k.Dst), port(r.SrcPort, k.SrcPort), port(r.DstPort, k.DstPort),
			r.Proto == -1 || r.Proto == k.Proto, r.Dscp == -1 || r.Dscp == k.Dscp,
		} {
			if ok {
				rows[part][i/64] |= 1 << (i % 64)
			}
		}
	}
	return rows
}

// matching tells which of rules a key matches, in a row and in a list.
func matching(l []api.Rule, k api.Key) ([]uint64, []int) {
	row := make([]uint64, (len(l)+63)/64)
	var found []int
	for i, r := range l {
		if rule.Matches(r, k) {
			row[i/64] |= 1 << (i % 64)
			found = append(found, i)
		}
	}
	return row, found
}

// same tells whether rows are equal.
func same(a, b [6][]uint64) bool {
	return slices.EqualFunc(a[:], b[:], slices.Equal[[]uint64])
}

// check holds what is told of a key, but for the Class where no rule matches.
func check(t *testing.T, s *sieve.Sieve, l []api.Rule, k api.Key) {
	t.Helper()
	if got, want := s.Rows(k), reference(l, k); !same(got, want) {
		t.Fatalf("of %d rules Rows(%v) = %x, not %x", len(l), k, got, want)
	}
	row, found := matching(l, k)
	first, class := -1, -7
	if len(found) > 0 {
		first, class = found[0], l[found[0]].Class
	}
	if got := s.Find(k); !slices.Equal(got, row) {
		t.Fatalf("of %d rules Find(%v) = %x, not %x", len(l), k, got, row)
	}
	if i, c := s.First(k), s.Class(k, -7); i != first || c != class {
		t.Fatalf("of %d rules First(%v) = %d and Class = %d, not %d and %d", len(l), k, i, c, first, class)
	}
}

// P22.1

// checkFault holds New of rules that have no sieve.
func checkFault(t *testing.T, l []api.Rule, want api.Fault) {
	t.Helper()
	if s, f := sieve.New(l); s != nil || f != want {
		t.Fatalf("New of %d rules = %v, %d, not %d", len(l), s, f, want)
	}
}

// invalid are rules that are not valid, and why.
func invalid() map[api.Errno][]api.Rule {
	return map[api.Errno][]api.Rule{
		api.ErrVersion: {{}, rule.Any(0, 0), rule.Any(5, 99), with(4, 0, func(r *api.Rule) { r.Dst.V = 6 }), with(6, 0, func(r *api.Rule) { r.Dst = prefix.All(4); r.SrcPort.Lo = -1 })},
		api.ErrRange: {
			with(4, 0, func(r *api.Rule) { r.Src.Len = 33 }), with(6, 0, func(r *api.Rule) { r.Dst.Len = -1 }), with(4, 0, func(r *api.Rule) { r.SrcPort.Hi = 65536 }), with(4, 16, func(r *api.Rule) { r.DstPort.Lo = -1 }),
			with(4, 0, func(r *api.Rule) { r.Proto = 256 }), with(6, 0, func(r *api.Rule) { r.Proto, r.Dscp = -2, 64 }),
		},
		api.ErrBits:  {with(4, 0, func(r *api.Rule) { r.Src.Addr[0] = 1 }), with(6, 0, func(r *api.Rule) { r.Dst.Addr[15], r.Dst.Len = 1, 127 })},
		api.ErrOrder: {with(4, 0, func(r *api.Rule) { r.SrcPort = api.Span{Lo: 9, Hi: 5} }), with(6, -1, func(r *api.Rule) { r.DstPort = api.Span{Lo: 65535} })},
		api.ErrPoint: {with(4, 0, func(r *api.Rule) { r.Dscp = 64 }), with(6, 16, func(r *api.Rule) { r.Dscp = -2 })},
		api.ErrClass: {rule.Any(4, 16), rule.Any(6, -1), rule.Any(4, math.MinInt), rule.Any(6, math.MaxInt)},
	}
}

func TestNewOfInvalid(t *testing.T) {
	good := drawnRules(rand.New(rand.NewSource(221)), 256)
	for e, bad := range invalid() {
		for _, r := range bad {
			if got := rule.Check(r); got != e {
				t.Fatalf("Check(%v) = %d, not %d", r, got, e)
			}
			for _, n := range []int{1, 2, 10, 256} {
				for _, at := range []int{0, n / 2, n - 1} {
					l := slices.Clone(good[:n])
					l[at] = r
					checkFault(t, l, api.Fault{Errno: e, At: at})
				}
			}
		}
	}
}

// Of several rules that are not valid the first one counts.
func TestNewOfSeveralInvalid(t *testing.T) {
	good := rule.Any(6, 1)
	for e, bad := range invalid() {
		for other, more := range invalid() {
			checkFault(t, []api.Rule{good, bad[0], more[1], good}, api.Fault{Errno: e, At: 1})
			checkFault(t, []api.Rule{more[0], good, bad[1]}, api.Fault{Errno: other, At: 0})
		}
	}
}

func TestNewOfMany(t *testing.T) {
	for _, n := range []int{257, 258, 512, 5000} {
		// That there are many ranks ahead of what is wrong with one.
		l := make([]api.Rule, n)
		checkFault(t, l, api.Fault{Errno: api.ErrMany, At: 256})
		for i := range l {
			l[i] = rule.Any(4, i%16)
		}
		checkFault(t, l, api.Fault{Errno: api.ErrMany, At: 256})
		must(t, l[:256])
	}
}

func TestLen(t *testing.T) {
	for _, l := range lists() {
		s := must(t, l)
		if got := s.Len(); got != len(l) {
			t.Errorf("Len = %d, not %d", got, len(l))
		}
		s.Find(api.Key{V: 4})
		if got := s.Len(); got != len(l) {
			t.Errorf("Len became %d, not %d", got, len(l))
		}
	}
}

// P22.2 and P22.3

func TestExample(t *testing.T) {
	s := must(t, example())
	k := api.Key{V: 4, Dscp: 46, Ports: true, DstPort: 53}
	cases := []struct {
		change func(k *api.Key)
		rows   [6]uint64
		first  int
		class  int
	}{
		{func(*api.Key) {}, [6]uint64{7, 7, 7, 7, 7, 7}, 0, 5}, {func(k *api.Key) { k.Ports = false }, [6]uint64{7, 7, 7, 6, 7, 7}, 1, 0},
		{func(k *api.Key) { k.DstPort = 54 }, [6]uint64{7, 7, 7, 6, 7, 7}, 1, 0}, {func(k *api.Key) { k.Dscp = 0 }, [6]uint64{7, 7, 7, 7, 7, 5}, 0, 5},
		{func(k *api.Key) { k.SrcPort, k.DstPort, k.Dscp = 53, 0, 45 }, [6]uint64{7, 7, 7, 6, 7, 5}, 2, 9}, {func(k *api.Key) { k.V = 6 }, [6]uint64{0, 0, 7, 7, 7, 7}, -1, 77},
	}
	for i, c := range cases {
		k := k
		c.change(&k)
		var rows [6][]uint64
		and := uint64(7)
		for part, word := range c.rows {
			rows[part] = []uint64{word}
			and &= word
		}
		if got := s.Rows(k); !same(got, rows) {
			t.Errorf("%d: Rows = %x, not %x", i, got, rows)
		}
		if row, first, class := s.Find(k), s.First(k), s.Class(k, 77); !slices.Equal(row, []uint64{and}) || first != c.first || class != c.class {
			t.Errorf("%d: Find = %x, First = %d and Class = %d", i, row, first, class)
		}
	}
}

// Each part of a rule is in its own row.
func TestRowsOfOnePart(t *testing.T) {
	l := []api.Rule{
		with(4, 0, func(r *api.Rule) { r.Src = api.Prefix{V: 4, Addr: [16]byte{10}, Len: 8} }), with(4, 1, func(r *api.Rule) { r.Dst = api.Prefix{V: 4, Addr: [16]byte{10}, Len: 8} }),
		with(4, 2, func(r *api.Rule) { r.SrcPort = api.Span{Lo: 10, Hi: 10} }), with(4, 3, func(r *api.Rule) { r.DstPort = api.Span{Lo: 10, Hi: 10} }),
		with(4, 4, func(r *api.Rule) { r.Proto = 10 }), with(4, 5, func(r *api.Rule) { r.Dscp = 10 }),
	}
	s := must(t, l)
	got := s.Rows(api.Key{V: 4, Proto: 11, Dscp: 11, Ports: true, SrcPort: 11, DstPort: 11})
	for part, row := range got {
		if !slices.Equal(row, []uint64{63 &^ (1 << part)}) {
			t.Errorf("row %d = %x", part, row)
		}
	}
	for part, change := range []func(k *api.Key){
		func(k *api.Key) { k.Src[0] = 10 }, func(k *api.Key) { k.Dst[0] = 10 }, func(k *api.Key) { k.SrcPort = 10 }, func(k *api.Key) { k.DstPort = 10 }, func(k *api.Key) { k.Proto = 10 }, func(k *api.Key) { k.Dscp = 10 },
	} {
		k := api.Key{V: 4, Proto: 11, Dscp: 11, Ports: true, SrcPort: 11, DstPort: 11}
		change(&k)
		if row, first, class := s.Find(k), s.First(k), s.Class(k, 99); !slices.Equal(row, []uint64{1 << part}) || first != part || class != part {
			t.Errorf("%d: Find = %x, First = %d and Class = %d", part, row, first, class)
		}
		if row := s.Rows(k)[part]; !slices.Equal(row, []uint64{63}) {
			t.Errorf("row %d = %x", part, row)
		}
	}
}

// A number that no rule can require satisfies those that require nothing.
func TestOddNumbers(t *testing.T) {
	l := []api.Rule{rule.Any(4, 1)}
	for _, n := range []int{0, 17, 255} {
		l = append(l, with(4, 2, func(r *api.Rule) { r.Proto = n }))
	}
	for _, n := range []int{0, 17, 63} {
		l = append(l, with(4, 3, func(r *api.Rule) { r.Dscp = n }))
	}
	for _, s := range []api.Span{{Lo: 0, Hi: 65534}, {Lo: 1, Hi: 65535}, {Lo: 17, Hi: 17}} {
		l = append(l, with(4, 4, func(r *api.Rule) { r.SrcPort = s }), with(4, 5, func(r *api.Rule) { r.DstPort = s }))
	}
	s := must(t, l)
	for _, n := range odd() {
		for _, has := range []bool{false, true} {
			for _, k := range []api.Key{
				{V: 4, Proto: n, Ports: has}, {V: 4, Dscp: n, Ports: has}, {V: 4, SrcPort: n, Ports: has}, {V: 4, DstPort: n, Ports: has}, {V: 4, Proto: n, Dscp: n, Ports: has, SrcPort: n, DstPort: n},
			} {
				check(t, s, l, k)
				if first, class := s.First(k), s.Class(k, 99); first != 0 || class != 1 {
					t.Errorf("First(%v) = %d and Class = %d", k, first, class)
				}
			}
			check(t, s, l, api.Key{V: n, Ports: has})
		}
	}
}

func TestClassOfNone(t *testing.T) {
	for _, l := range [][]api.Rule{nil, {rule.Any(6, 0)}, example(), drawnRules(rand.New(rand.NewSource(222)), 200)} {
		s := must(t, l)
		for _, other := range append(odd(), 0, 5, 15, 16) {
			if got := s.Class(api.Key{V: 5}, other); got != other {
				t.Errorf("Class = %d, not %d", got, other)
			}
			if got := s.Class(api.Key{V: 46, Ports: true}, other); got != other {
				t.Errorf("Class = %d, not %d", got, other)
			}
		}
	}
}

// A class is told as the rule has it, whatever the other one is, also class 0.
func TestClassOfOneRule(t *testing.T) {
	for class := range 16 {
		s := must(t, []api.Rule{rule.Any(4, class), rule.Any(6, 15-class)})
		for _, other := range odd() {
			if four, six := s.Class(api.Key{V: 4}, other), s.Class(api.Key{V: 6}, other); four != class || six != 15-class {
				t.Errorf("Class = %d and %d, not %d and %d", four, six, class, 15-class)
			}
		}
	}
}

func TestNil(t *testing.T) {
	var s *sieve.Sieve
	if got := s.Len(); got != 0 {
		t.Errorf("Len = %d", got)
	}
	draw := rand.New(rand.NewSource(223))
	for _, k := range keys(draw, drawnRules(draw, 20)) {
		for part, row := range s.Rows(k) {
			if len(row) != 0 {
				t.Errorf("row %d of %v = %x", part, k, row)
			}
		}
		if row, first := s.Find(k), s.First(k); len(row) != 0 || first != -1 {
			t.Errorf("Find(%v) = %x and First = %d", k, row, first)
		}
		for _, other := range odd() {
			if got := s.Class(k, other); got != other {
				t.Errorf("Class(%v) = %d, not %d", k, got, other)
			}
		}
	}
}

// P22.4

func TestFoundIfItMatches(t *testing.T) {
	draw := rand.New(rand.NewSource(224))
	matched := 0
	for _, l := range lists() {
		s := must(t, l)
		for _, k := range keys(draw, l) {
			check(t, s, l, k)
			if s.First(k) >= 0 {
				matched++
			}
		}
	}
	if matched < 5000 {
		t.Errorf("%d keys matched", matched)
	}
}

// What stands behind the first rule that matches does not count for First and Class.
func TestRulesBehindTheFirst(t *testing.T) {
	draw := rand.New(rand.NewSource(225))
	for range 20 {
		l := drawnRules(draw, 1+draw.Intn(60))
		s := must(t, l)
		for _, r := range l {
			k := keyOf(draw, r)
			first := s.First(k)
			if first < 0 {
				t.Fatalf("First(%v) = -1", k)
			}
			for _, behind := range [][]api.Rule{nil, drawnRules(draw, 10), {rule.Any(k.V, 15-l[first].Class)}} {
				other := must(t, append(slices.Clone(l[:first+1]), behind...))
				if i, class := other.First(k), other.Class(k, -1); i != first || class != l[first].Class {
					t.Fatalf("First(%v) = %d and Class = %d, not %d and %d", k, i, class, first, l[first].Class)
				}
			}
		}
	}
}

// The tables are made by the first query, and by no other one: before it there is little that a sieve needs, and behind it there is.
func TestTablesAreMadeOnce(t *testing.T) {
	var l []api.Rule
	for i := range 256 {
		l = append(l, with(6, 0, func(r *api.Rule) { r.Src = api.Prefix{V: 6, Addr: [16]byte{byte(i)}, Len: 128} }))
	}
	fresh := testing.AllocsPerRun(5, func() { must(t, l).Len() })
	first := testing.AllocsPerRun(5, func() { must(t, l).Find(api.Key{V: 6}) })
	s := must(t, l)
	s.Find(api.Key{V: 6})
	later := testing.AllocsPerRun(5, func() { s.Find(api.Key{V: 6}) })
	if fresh > 100 || first < 1000 || later > 100 {
		t.Errorf("New allocates %v times, the first query %v times and a later one %v times", fresh, first, later)
	}
}

func TestQueriesAtTheSameTime(t *testing.T) {
	draw := rand.New(rand.NewSource(226))
	for range 20 {
		l := drawnRules(draw, 64)
		s, k := must(t, l), keys(draw, l)
		var found [8][]uint64
		var wait sync.WaitGroup
		for i := range found {
			wait.Go(func() { found[i] = s.Find(k[40*i]) })
		}
		wait.Wait()
		for i, got := range found {
			if want, _ := matching(l, k[40*i]); !slices.Equal(got, want) {
				t.Fatalf("Find(%v) = %x, not %x", k[40*i], got, want)
			}
		}
	}
}

// P3 of the general rules

func TestArgumentsStay(t *testing.T) {
	draw := rand.New(rand.NewSource(227))
	back := append(drawnRules(draw, 30), api.Rule{}, rule.Any(9, 99))
	before := slices.Clone(back)
	must(t, back[:30]).Find(api.Key{V: 4})
	if !slices.Equal(back, before) {
		t.Errorf("the rules became %v", back)
	}
}

// A sieve is what it was when its list is changed, before its first query or behind it.
func TestListIsNotShared(t *testing.T) {
	draw := rand.New(rand.NewSource(228))
	for _, queried := range []bool{false, true} {
		l := drawnRules(draw, 100)
		before := slices.Clone(l)
		s := must(t, l)
		if queried {
			s.Find(api.Key{V: 4})
		}
		for i := range l {
			l[i] = rule.Any(4, 14)
		}
		for _, k := range keys(draw, before) {
			check(t, s, before, k)
		}
	}
}

// spoil changes each word of a row, and what may lie behind it.
func spoil(row []uint64) {
	row = row[:cap(row)]
	for i := range row {
		row[i] = ^row[i]
	}
}

func TestRowsAreNewMemory(t *testing.T) {
	draw := rand.New(rand.NewSource(229))
	for _, l := range [][]api.Rule{example(), drawnRules(draw, 70), drawnRules(draw, 256)} {
		s := must(t, l)
		for _, k := range keys(draw, l)[:30] {
			rows, want := s.Rows(k), reference(l, k)
			for part, row := range rows {
				spoil(row)
				rows[part] = want[part]
				if !same(rows, want) {
					t.Fatalf("row %d of %v shares memory with another one", part, k)
				}
			}
			spoil(s.Find(k))
			check(t, s, l, k)
		}
	}
}

// P5 of the general rules: a sieve tells the same whatever others there are.
func TestSievesShareNothing(t *testing.T) {
	draw := rand.New(rand.NewSource(230))
	one, other := drawnRules(draw, 40), drawnRules(draw, 40)
	first, second := must(t, one), must(t, other)
	l := keys(draw, append(slices.Clone(one), other...))
	for range 2 {
		for _, k := range l {
			check(t, first, one, k)
			check(t, second, other, k)
		}
		checkFault(t, []api.Rule{rule.Any(4, 16)}, api.Fault{Errno: api.ErrClass})
	}
}
