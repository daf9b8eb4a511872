package shadow_test

import (
	"math"
	"math/rand"
	"slices"
	"strings"
	"testing"

	"weighbridge/api"
	"weighbridge/rule"
	"weighbridge/shadow"
	"weighbridge/sieve"
)

// words are what the parts of rules of a version are drawn from, but for the class.
func words(v int) [6][]string {
	spans := []string{"*", "0", "65535", "0-65534", "1-65535", "53", "54", "50-60", "53-60", "50-53", "55-65", "60-70", "61-70", "1024-65535", "0-1023"}
	protos := []string{"*", "0", "1", "6", "17", "58", "132", "255"}
	dscps := []string{"*", "cs0", "le", "ef", "63"}
	prefixes := []string{"0.0.0.0/0", "10.0.0.0/8", "10.0.0.0/9", "10.128.0.0/9", "10.0.0.0/32", "10.0.0.1/32", "10.128.0.0/32", "11.0.0.0/8", "128.0.0.0/1", "0.0.0.0/1", "0.0.0.0/32", "255.255.255.255/32"}
	if v == 6 {
		prefixes = []string{"::/0", "::/1", "8000::/1", "2001:db8::/32", "2001:db8::/33", "2001:db8:8000::/33", "2001:db8::/127", "2001:db8::/128", "2001:db8::1/128", "::/128", "a00::/8", "ffff:ffff:ffff:ffff:ffff:ffff:ffff:ffff/128"}
	}
	return [6][]string{prefixes, prefixes, spans, spans, protos, dscps}
}

// of tells the rule of a text that has one.
func of(text string) api.Rule {
	r, f := rule.Parse(text)
	if f != (api.Fault{}) {
		panic(text)
	}
	return r
}

// list tells the rules of texts.
func list(texts ...string) []api.Rule {
	var l []api.Rule
	for _, text := range texts {
		l = append(l, of(text))
	}
	return l
}

// oneOf tells the rule that asks nothing but the version and one word.
func oneOf(v, part int, word, class string) api.Rule {
	var text []string
	for _, l := range words(v) {
		text = append(text, l[0])
	}
	text[part] = word
	return of(strings.Join(append(text, class), " "))
}

// from tells one of some.
func from[T any](draw *rand.Rand, l ...T) T {
	return l[draw.Intn(len(l))]
}

// drawn tells a rule, of which each part asks something as often as it asks nothing.
func drawn(draw *rand.Rand) api.Rule {
	var text []string
	for _, l := range words(from(draw, 4, 6)) {
		text = append(text, from(draw, l[0], from(draw, l...)))
	}
	return of(strings.Join(append(text, from(draw, "0", "1", "15")), " "))
}

// drawnList tells so many rules.
func drawnList(draw *rand.Rand, n int) []api.Rule {
	var l []api.Rule
	for range n {
		l = append(l, drawn(draw))
	}
	return l
}

// invalid are rules that are not valid, by their errors.
func invalid() map[api.Errno][]api.Rule {
	with := func(change func(r *api.Rule)) api.Rule {
		r := of("10.0.0.0/8 10.0.0.0/8 53 53 1 ef 2")
		change(&r)
		return r
	}
	return map[api.Errno][]api.Rule{
		api.ErrVersion: {{}, rule.Any(5, 0), with(func(r *api.Rule) { r.Src.V = -4 }), with(func(r *api.Rule) { r.Src.V = 6 }), with(func(r *api.Rule) { r.Dst.V = 6 }), with(func(r *api.Rule) { r.Dst.V = 0 })},
		api.ErrRange: {
			with(func(r *api.Rule) { r.Src.Len = 33 }), with(func(r *api.Rule) { r.Dst.Len = -1 }), with(func(r *api.Rule) { r.SrcPort.Lo = -1 }), with(func(r *api.Rule) { r.DstPort.Hi = 65536 }),
			with(func(r *api.Rule) { r.Proto = 256 }), with(func(r *api.Rule) { r.Proto = -2 }), with(func(r *api.Rule) { r.Proto = math.MinInt }),
		},
		api.ErrBits:  {with(func(r *api.Rule) { r.Src.Addr[1] = 1 }), with(func(r *api.Rule) { r.Dst.Addr[15] = 1 })},
		api.ErrOrder: {with(func(r *api.Rule) { r.SrcPort.Lo = 54 }), with(func(r *api.Rule) { r.DstPort.Hi = 0 })},
		api.ErrPoint: {with(func(r *api.Rule) { r.Dscp = 64 }), with(func(r *api.Rule) { r.Dscp = -2 })},
		api.ErrClass: {with(func(r *api.Rule) { r.Class = 16 }), with(func(r *api.Rule) { r.Class = -1 }), rule.Any(6, math.MaxInt)},
	}
}

// digits tells the bits that a prefix asks.
func digits(p api.Prefix) string {
	var text strings.Builder
	for i := range p.Len {
		text.WriteByte('0' + p.Addr[i/8]>>(7-i%8)&1)
	}
	return text.String()
}

// within tells whether all that has a valid prefix has another one.
func within(a, b api.Prefix) bool {
	return a.V == b.V && strings.HasPrefix(digits(a), digits(b))
}

// pair is two spans, and ends what is told of them: whether all ports of the second are in the first, and the smallest that is in both (-1: none).
type pair struct{ a, b api.Span }
type ends struct {
	in    bool
	least int
}

// look goes through the ports of two spans one by one.
func look(p pair) ends {
	e := ends{in: true, least: -1}
	for n := p.b.Hi; n >= p.b.Lo; n-- {
		if n < p.a.Lo || n > p.a.Hi {
			e.in = false
		} else {
			e.least = n
		}
	}
	return e
}

// reference tells what is to be told of two rules; it remembers what it saw of spans.
type reference map[pair]ends

// look tells of two spans.
func (f reference) look(a, b api.Span) ends {
	e, ok := f[pair{a, b}]
	if !ok {
		e = look(pair{a, b})
		f[pair{a, b}] = e
	}
	return e
}

// covers tells whether a valid rule covers another one.
func (f reference) covers(a, b api.Rule) bool {
	all := api.Span{Lo: 0, Hi: 65535}
	port := func(a, b api.Span) bool {
		return a == all || a != all && b != all && f.look(a, b).in
	}
	number := func(a, b int) bool { return a == -1 || b == a }
	return within(b.Src, a.Src) && within(b.Dst, a.Dst) && port(a.SrcPort, b.SrcPort) && port(a.DstPort, b.DstPort) && number(a.Proto, b.Proto) && number(a.Dscp, b.Dscp)
}

// witness tells the key of two valid rules, and whether there is one.
func (f reference) witness(a, b api.Rule) (api.Key, bool) {
	ok := true
	address := func(a, b api.Prefix) [16]byte {
		ok = ok && (within(a, b) || within(b, a))
		if a.Len > b.Len {
			return a.Addr
		}
		return b.Addr
	}
	port := func(a, b api.Span) int {
		ok = ok && f.look(a, b).least >= 0
		return f.look(a, b).least
	}
	number := func(a, b, other int) int {
		ok = ok && (a == -1 || b == -1 || a == b)
		if a != -1 || b != -1 {
			return max(a, b)
		}
		return other
	}
	k := api.Key{
		V: a.Src.V, Src: address(a.Src, b.Src), Dst: address(a.Dst, b.Dst), Proto: number(a.Proto, b.Proto, 6), Dscp: number(a.Dscp, b.Dscp, 0),
		Ports: true, SrcPort: port(a.SrcPort, b.SrcPort), DstPort: port(a.DstPort, b.DstPort),
	}
	if !ok {
		return api.Key{}, false
	}
	return k, true
}

// dead tells whether a valid rule is dead.
func dead(r api.Rule) bool {
	all := api.Span{Lo: 0, Hi: 65535}
	return (r.SrcPort != all || r.DstPort != all) && !slices.Contains([]int{-1, 6, 17, 132}, r.Proto)
}

// lint tells what is to be noted of valid rules.
func (f reference) lint(l []api.Rule) []api.Note {
	covered := func(i int) int {
		return slices.IndexFunc(l[:i], func(a api.Rule) bool { return f.covers(a, l[i]) })
	}
	var notes []api.Note
	for i, r := range l {
		if dead(r) {
			notes = append(notes, api.Note{Kind: 1, At: i, By: i})
			continue
		}
		if j := covered(i); j >= 0 {
			notes = append(notes, api.Note{Kind: 2, At: i, By: j})
			continue
		}
		for j, a := range l[:i] {
			if _, ok := f.witness(a, r); ok && !dead(a) && covered(j) < 0 && a.Class != r.Class {
				notes = append(notes, api.Note{Kind: 3, At: i, By: j})
			}
		}
	}
	return notes
}

// check holds what is told of two valid rules.
func (f reference) check(t *testing.T, a, b api.Rule) {
	t.Helper()
	if got, want := shadow.Covers(a, b), f.covers(a, b); got != want {
		t.Fatalf("Covers(%s, %s) = %v", rule.Print(a), rule.Print(b), got)
	}
	want, wantOk := f.witness(a, b)
	if got := shadow.Meets(a, b); got != wantOk {
		t.Fatalf("Meets(%s, %s) = %v", rule.Print(a), rule.Print(b), got)
	}
	if got, ok := shadow.Witness(a, b); got != want || ok != wantOk {
		t.Fatalf("Witness(%s, %s) = %v, %v, not %v", rule.Print(a), rule.Print(b), got, ok, want)
	}
}

// numbers are numbers at all edges of ports, protocols and code points.
func numbers() []int {
	return []int{math.MinInt, -2, -1, 0, 1, 6, 17, 46, 49, 50, 53, 54, 55, 58, 60, 61, 63, 64, 65, 70, 132, 255, 256, 1023, 1024, 65534, 65535, 65536, 1<<32 + 53, math.MaxInt}
}

// keys tells keys that match a rule, and those of which one part is another one.
func keys(draw *rand.Rand, r api.Rule) []api.Key {
	changes := []func(k *api.Key){
		func(*api.Key) {}, func(k *api.Key) { k.V = from(draw, numbers()...) }, func(k *api.Key) { k.V = 10 - k.V },
		func(k *api.Key) { k.Src[draw.Intn(16)] ^= 1 << draw.Intn(8) }, func(k *api.Key) { k.Dst[draw.Intn(16)] ^= 1 << draw.Intn(8) },
		func(k *api.Key) { k.SrcPort = from(draw, numbers()...) }, func(k *api.Key) { k.DstPort = from(draw, numbers()...) }, func(k *api.Key) { k.Ports = !k.Ports },
		func(k *api.Key) { k.Proto = from(draw, numbers()...) }, func(k *api.Key) { k.Dscp = from(draw, numbers()...) },
	}
	var l []api.Key
	for _, change := range changes {
		k := api.Key{
			V: r.Src.V, Src: r.Src.Addr, Dst: r.Dst.Addr, Proto: r.Proto, Dscp: r.Dscp, Ports: true,
			SrcPort: from(draw, r.SrcPort.Lo, r.SrcPort.Hi), DstPort: from(draw, r.DstPort.Lo, r.DstPort.Hi),
		}
		change(&k)
		l = append(l, k)
		change(&k)
		from(draw, changes...)(&k)
		l = append(l, k)
	}
	return l
}

// P23.1 and P23.2

func TestCoversAndMeetsOfExamples(t *testing.T) {
	const none = "0.0.0.0/0 0.0.0.0/0 * * * * 3"
	cases := []struct {
		a, b          string
		covers, meets bool
		key           api.Key
	}{
		{none, none, true, true, api.Key{V: 4, Proto: 6, Ports: true}},
		{none, "::/0 ::/0 * * * * 3", false, false, api.Key{}},
		{none, "10.0.0.0/8 10.1.0.0/16 * 53 17 ef 2", true, true, api.Key{V: 4, Src: [16]byte{10}, Dst: [16]byte{10, 1}, Proto: 17, Dscp: 46, Ports: true, DstPort: 53}},
		{"10.0.0.0/8 10.1.0.0/16 * 53 17 ef 2", none, false, true, api.Key{V: 4, Src: [16]byte{10}, Dst: [16]byte{10, 1}, Proto: 17, Dscp: 46, Ports: true, DstPort: 53}},
		{"10.0.0.0/8 10.1.0.0/16 5-9 53 * ef 2", "10.9.0.0/16 10.0.0.0/8 7-12 50-60 132 * 2", false, true, api.Key{V: 4, Src: [16]byte{10, 9}, Dst: [16]byte{10, 1}, Proto: 132, Dscp: 46, Ports: true, SrcPort: 7, DstPort: 53}},
		{"::/0 ::/0 * 50-60 * * 3", "::/0 2001:db8::/32 * 53 6 * 4", true, true, api.Key{V: 6, Dst: [16]byte{0x20, 1, 0x0d, 0xb8}, Proto: 6, Ports: true, DstPort: 53}},
		{"::/0 ::/0 * 50-60 * * 3", "::/0 ::/0 * 50-61 * * 3", false, true, api.Key{V: 6, Proto: 6, Ports: true, DstPort: 50}},
		{"::/0 ::/0 50-60 * * * 3", "::/0 ::/0 61 * * * 3", false, false, api.Key{}}, {"::/0 ::/0 * 0-9 * * 3", "::/0 ::/0 * * * * 3", false, true, api.Key{V: 6, Proto: 6, Ports: true}},
		{"::/0 ::/0 * * 6 * 3", "::/0 ::/0 * * 17 * 3", false, false, api.Key{}}, {"::/0 ::/0 * * 0 * 3", "::/0 ::/0 * * * * 3", false, true, api.Key{V: 6, Ports: true}},
		{"::/0 ::/0 * * * ef 3", "::/0 ::/0 * * * va 3", false, false, api.Key{}}, {"::/0 ::/0 * * * ef 3", "::/0 ::/0 * * 255 ef 5", true, true, api.Key{V: 6, Proto: 255, Dscp: 46, Ports: true}},
		// Some key has both also where no packet has one of them, or both.
		{"0.0.0.0/0 0.0.0.0/0 * 53 1 * 3", "0.0.0.0/0 0.0.0.0/0 * 53 1 * 3", true, true, api.Key{V: 4, Proto: 1, Ports: true, DstPort: 53}},
		{"0.0.0.0/0 0.0.0.0/0 53 * * * 3", "0.0.0.0/0 0.0.0.0/0 * * 1 * 3", false, true, api.Key{V: 4, Proto: 1, Ports: true, SrcPort: 53}},
	}
	for _, c := range cases {
		a, b := of(c.a), of(c.b)
		if covers, meets := shadow.Covers(a, b), shadow.Meets(a, b); covers != c.covers || meets != c.meets {
			t.Errorf("%s and %s: Covers = %v, Meets = %v", c.a, c.b, covers, meets)
		}
		for _, l := range [][2]api.Rule{{a, b}, {b, a}} {
			if k, ok := shadow.Witness(l[0], l[1]); k != c.key || ok != c.meets {
				t.Errorf("Witness of %s and %s = %v, %v", c.a, c.b, k, ok)
			}
		}
	}
}

// Each word of a part against each other one, where the rest asks nothing.
func TestCoversAndMeetsOfOnePart(t *testing.T) {
	f := reference{}
	for _, v := range []int{4, 6} {
		for part, l := range words(v) {
			for _, one := range l {
				for _, two := range l {
					f.check(t, oneOf(v, part, one, "3"), oneOf(v, part, two, "4"))
				}
			}
		}
	}
}

// One part does not cover or meet, and all others do, where they ask something.
func TestCoversAndMeetsButForOnePart(t *testing.T) {
	f := reference{}
	same := strings.Fields("10.0.0.0/9 10.0.0.0/9 53-60 53-60 17 ef 2")
	for part, l := range [][]string{
		{"10.0.0.0/10", "10.0.0.0/8", "10.128.0.0/9", "0.0.0.0/0"}, {"10.64.0.0/10", "10.0.0.0/8", "10.128.0.0/9", "0.0.0.0/0"}, {"54", "50-60", "61", "*"}, {"54-60", "53-61", "52", "*"}, {"17", "*", "6", "*"}, {"ef", "*", "va", "*"},
	} {
		for i, word := range l {
			text := slices.Clone(same)
			text[part] = word
			a, b := of(strings.Join(same, " ")), of(strings.Join(text, " "))
			f.check(t, a, b)
			f.check(t, b, a)
			if got, want := [4]bool{shadow.Covers(a, b), shadow.Covers(b, a), shadow.Meets(a, b), shadow.Meets(b, a)}, [4][4]bool{{true, part > 3, true, true}, {false, true, true, true}, {}, {false, true, true, true}}[i]; got != want {
				t.Errorf("%s: %v, not %v", rule.Print(b), got, want)
			}
		}
	}
}

func TestCoversAndMeetsOfDrawn(t *testing.T) {
	f := reference{}
	draw := rand.New(rand.NewSource(231))
	covered, met := 0, 0
	for range 100000 {
		a, b := drawn(draw), drawn(draw)
		f.check(t, a, b)
		if shadow.Covers(a, b) {
			covered++
		}
		if shadow.Meets(a, b) {
			met++
		}
	}
	if covered < 1000 || met < 5000 {
		t.Errorf("%d covered and %d met", covered, met)
	}
}

// A key has both where Meets says so, and else no key that has one of them has the other one.
func TestWitnessMatchesBoth(t *testing.T) {
	draw := rand.New(rand.NewSource(232))
	met := 0
	for range 20000 {
		a, b := drawn(draw), drawn(draw)
		k, ok := shadow.Witness(a, b)
		if ok && !(rule.Matches(a, k) && rule.Matches(b, k)) {
			t.Fatalf("Witness(%s, %s) = %v", rule.Print(a), rule.Print(b), k)
		}
		if ok {
			met++
			continue
		}
		for _, k := range append(keys(draw, a), keys(draw, b)...) {
			if rule.Matches(a, k) && rule.Matches(b, k) {
				t.Fatalf("Witness(%s, %s) is not %v", rule.Print(a), rule.Print(b), k)
			}
		}
	}
	if met < 1000 {
		t.Errorf("%d met", met)
	}
}

// The class of a rule counts for nothing, unless it is not valid.
func TestCoversAndMeetsWhateverTheClass(t *testing.T) {
	for a := range 16 {
		for b := range 16 {
			if !shadow.Covers(rule.Any(4, a), rule.Any(4, b)) || !shadow.Meets(rule.Any(6, a), rule.Any(6, b)) {
				t.Errorf("class %d and %d", a, b)
			}
		}
	}
}

func TestCoversAndMeetsOfInvalid(t *testing.T) {
	draw := rand.New(rand.NewSource(233))
	for e, l := range invalid() {
		for _, bad := range l {
			if got := rule.Check(bad); got != e {
				t.Fatalf("Check(%v) = %d, not %d", bad, got, e)
			}
			good := append(drawnList(draw, 20), rule.Any(4, 0), rule.Any(6, 0), of("10.0.0.0/8 10.0.0.0/8 53 53 1 ef 2"), bad)
			for _, other := range good {
				for _, p := range [][2]api.Rule{{bad, other}, {other, bad}} {
					if shadow.Covers(p[0], p[1]) || shadow.Meets(p[0], p[1]) {
						t.Errorf("%v covers or meets %v", p[0], p[1])
					}
					if k, ok := shadow.Witness(p[0], p[1]); k != (api.Key{}) || ok {
						t.Errorf("Witness(%v, %v) = %v, %v", p[0], p[1], k, ok)
					}
				}
			}
		}
	}
}

// P23.3

func TestDead(t *testing.T) {
	for proto := -1; proto < 256; proto++ {
		without := proto >= 0 && proto != 6 && proto != 17 && proto != 132
		for _, c := range []struct {
			src, dst api.Span
			asks     bool
		}{
			{api.Span{Lo: 0, Hi: 65535}, api.Span{Lo: 0, Hi: 65535}, false}, {api.Span{Lo: 53, Hi: 53}, api.Span{Lo: 0, Hi: 65535}, true}, {api.Span{Lo: 0, Hi: 65535}, api.Span{Lo: 53, Hi: 53}, true},
			{api.Span{Lo: 0, Hi: 65534}, api.Span{Lo: 0, Hi: 65535}, true}, {api.Span{Lo: 0, Hi: 65535}, api.Span{Lo: 1, Hi: 65535}, true}, {api.Span{}, api.Span{}, true},
		} {
			for _, r := range []api.Rule{rule.Any(4, 0), rule.Any(6, 15), of("10.0.0.0/8 10.0.0.0/8 * * * ef 2")} {
				r.SrcPort, r.DstPort, r.Proto = c.src, c.dst, proto
				if got, want := shadow.Dead(r), without && c.asks; got != want {
					t.Errorf("Dead(%s) = %v", rule.Print(r), got)
				}
			}
		}
	}
}

func TestDeadOfInvalid(t *testing.T) {
	for _, l := range invalid() {
		for _, bad := range l {
			for _, proto := range []int{bad.Proto, 1, 300, -5} {
				bad.Proto = proto
				if rule.Check(bad) != api.OK && shadow.Dead(bad) {
					t.Errorf("%v is dead", bad)
				}
			}
		}
	}
}

// P23.4

// checkLint holds the notes of rules that are all valid.
func checkLint(t *testing.T, l []api.Rule, want ...api.Note) {
	t.Helper()
	if got, f := shadow.Lint(l); !slices.Equal(got, want) || f != (api.Fault{}) {
		t.Errorf("Lint of %d rules = %v, %v, not %v", len(l), got, f, want)
	}
}

func TestLintOfExamples(t *testing.T) {
	const none, port, no = "0.0.0.0/0 0.0.0.0/0 * * * * ", "0.0.0.0/0 0.0.0.0/0 * 53 * * ", "0.0.0.0/0 0.0.0.0/0 * 53 1 * "
	clash, covered, dead := api.Clash, api.Covered, api.Dead
	checkLint(t, list(port+"2", none+"1", no+"2", port+"2"), api.Note{Kind: clash, At: 1, By: 0}, api.Note{Kind: dead, At: 2, By: 2}, api.Note{Kind: covered, At: 3, By: 0})
	checkLint(t, nil)
	checkLint(t, []api.Rule{})
	checkLint(t, list(none+"1"))
	checkLint(t, list(no+"1"), api.Note{Kind: dead})
	// Rules of the same class do not clash, nor do those that no key has both.
	checkLint(t, list(port+"2", none+"2", "::/0 ::/0 * * * * 1"))
	// A rule that is dead or covered clashes with none, and none with it.
	checkLint(t, list(no+"1", none+"2"), api.Note{Kind: dead})
	checkLint(t, list(none+"1", port+"2", "0.0.0.0/0 0.0.0.0/0 53 * * * 3"), api.Note{Kind: covered, At: 1, By: 0}, api.Note{Kind: covered, At: 2, By: 0})
	checkLint(t, list(port+"1", "0.0.0.0/0 0.0.0.0/0 * 53 17 * 2", none+"3"), api.Note{Kind: covered, At: 1, By: 0}, api.Note{Kind: clash, At: 2, By: 0})
	// The first of several rules that cover one is told, and whatever its class is; that a rule is dead ranks ahead.
	checkLint(t, list(port+"5", none+"5", "0.0.0.0/0 0.0.0.0/0 * 53 6 * 1", no+"5"), api.Note{Kind: covered, At: 2, By: 0}, api.Note{Kind: dead, At: 3, By: 3})
	// A rule is not covered by a later one, and clashes with all earlier ones in their order.
	checkLint(t, list("0.0.0.0/0 0.0.0.0/0 * * 6 * 1", "0.0.0.0/0 0.0.0.0/0 * * 17 * 2", "0.0.0.0/0 0.0.0.0/0 * * 1 * 9", none+"9"), api.Note{Kind: clash, At: 3, By: 0}, api.Note{Kind: clash, At: 3, By: 1})
	// Some key has both, although no packet has: one asks a port, the other one a protocol without ports.
	checkLint(t, list(port+"1", "0.0.0.0/0 0.0.0.0/0 * * 1 * 2"), api.Note{Kind: clash, At: 1, By: 0})
}

func TestLintOfDrawn(t *testing.T) {
	f := reference{}
	draw := rand.New(rand.NewSource(234))
	var kinds [4]int
	for n := range 120 {
		l := drawnList(draw, n%60+1)
		want := f.lint(l)
		checkLint(t, l, want...)
		for _, note := range want {
			kinds[note.Kind]++
		}
	}
	if slices.Min(kinds[1:]) < 200 {
		t.Errorf("kinds of notes: %v", kinds)
	}
}

// As many rules as there may be.
func TestLintOfMany(t *testing.T) {
	f := reference{}
	draw := rand.New(rand.NewSource(235))
	for _, n := range []int{255, 256} {
		l := drawnList(draw, n)
		checkLint(t, l, f.lint(l)...)
	}
	var l []api.Rule
	var want []api.Note
	for i := range 256 {
		r := rule.Any(6, i%2)
		r.SrcPort = api.Span{Lo: 0, Hi: i}
		l = append(l, r)
		for by := 1 - i%2; by < i; by += 2 {
			want = append(want, api.Note{Kind: api.Clash, At: i, By: by})
		}
	}
	checkLint(t, l, want...)
}

// checkFault holds Lint and Prune of rules that have no sieve.
func checkFault(t *testing.T, l []api.Rule, want api.Fault) {
	t.Helper()
	if _, f := sieve.New(l); f != want {
		t.Fatalf("New of %d rules = %v, not %v", len(l), f, want)
	}
	if got, f := shadow.Lint(l); len(got) != 0 || f != want {
		t.Errorf("Lint of %d rules = %v, %v, not %v", len(l), got, f, want)
	}
	if got, f := shadow.Prune(l); len(got) != 0 || f != want {
		t.Errorf("Prune of %d rules = %v, %v, not %v", len(l), got, f, want)
	}
}

func TestFaults(t *testing.T) {
	draw := rand.New(rand.NewSource(236))
	good := drawnList(draw, 256)
	for e, bad := range invalid() {
		for _, r := range bad {
			for _, at := range []int{0, 1, 128, 255} {
				l := slices.Clone(good)
				l[at] = r
				checkFault(t, l, api.Fault{Errno: e, At: at})
				// One behind it does not count.
				l = append(l[:at+1], api.Rule{}, rule.Any(4, 99))
				checkFault(t, l[:min(len(l), 256)], api.Fault{Errno: e, At: at})
			}
		}
	}
	for _, n := range []int{257, 258, 1000} {
		checkFault(t, make([]api.Rule, n), api.Fault{Errno: api.ErrMany, At: 256})
		checkFault(t, slices.Repeat(list("::/0 ::/0 * 5 1 * 1"), n), api.Fault{Errno: api.ErrMany, At: 256})
	}
}

// P23.5

// checkPrune holds what is left of rules that are all valid.
func checkPrune(t *testing.T, l, want []api.Rule) {
	t.Helper()
	if got, f := shadow.Prune(l); !slices.Equal(got, want) || f != (api.Fault{}) {
		t.Errorf("Prune of %d rules = %v, %v, not %v", len(l), got, f, want)
	}
}

func TestPruneOfExamples(t *testing.T) {
	const none, port, no = "0.0.0.0/0 0.0.0.0/0 * * * * ", "0.0.0.0/0 0.0.0.0/0 * 53 * * ", "0.0.0.0/0 0.0.0.0/0 * 53 1 * "
	checkPrune(t, list(port+"2", none+"1", no+"2", port+"2"), list(port+"2", none+"1"))
	checkPrune(t, nil, nil)
	checkPrune(t, list(no+"1", no+"2"), nil)
	checkPrune(t, list(no+"1", none+"2", port+"1", none+"2", "::/0 ::/0 * * * * 7"), list(none+"2", "::/0 ::/0 * * * * 7"))
	checkPrune(t, slices.Repeat(list(none+"4"), 256), list(none+"4"))
}

func TestPruneOfDrawn(t *testing.T) {
	f := reference{}
	draw := rand.New(rand.NewSource(237))
	for n := range 120 {
		l := drawnList(draw, n%60+1)
		var want []api.Rule
		notes := f.lint(l)
		for i, r := range l {
			if !slices.ContainsFunc(notes, func(n api.Note) bool { return n.At == i && n.Kind != api.Clash }) {
				want = append(want, r)
			}
		}
		checkPrune(t, l, want)
	}
}

// P23.6

func TestCoveringRulesMatch(t *testing.T) {
	draw := rand.New(rand.NewSource(238))
	matched := 0
	for range 20000 {
		a, b := drawn(draw), drawn(draw)
		if !shadow.Covers(a, b) {
			continue
		}
		for _, k := range keys(draw, b) {
			if rule.Matches(b, k) {
				matched++
				if !rule.Matches(a, k) {
					t.Fatalf("%s does not cover %s for %v", rule.Print(a), rule.Print(b), k)
				}
			}
		}
	}
	if matched < 1000 {
		t.Errorf("%d keys matched", matched)
	}
}

// Only a packet whose protocol has ports has some.
func TestPruningKeepsClasses(t *testing.T) {
	draw := rand.New(rand.NewSource(239))
	matched := 0
	for range 60 {
		l := drawnList(draw, 1+draw.Intn(60))
		kept, _ := shadow.Prune(l)
		checkPrune(t, kept, kept)
		before, _ := sieve.New(l)
		now, f := sieve.New(kept)
		if f != (api.Fault{}) {
			t.Fatalf("New of what is kept = %v", f)
		}
		for _, r := range l {
			for _, k := range keys(draw, r) {
				k.Ports = k.Ports && (k.Proto == 6 || k.Proto == 17 || k.Proto == 132)
				if before.First(k) >= 0 {
					matched++
				}
				if got, want := now.Class(k, -1), before.Class(k, -1); got != want {
					t.Fatalf("the class of %v is %d, not %d", k, got, want)
				}
			}
		}
	}
	if matched < 5000 {
		t.Errorf("%d keys matched", matched)
	}
}

// P23.7

func TestWhyOfExamples(t *testing.T) {
	r := of("10.0.0.0/8 10.1.0.0/16 5-9 53 17 ef 2")
	changes := []func(k *api.Key){
		func(k *api.Key) { k.Src[0] = 11 }, func(k *api.Key) { k.Dst[1] = 2 }, func(k *api.Key) { k.SrcPort = 4 }, func(k *api.Key) { k.DstPort = 54 }, func(k *api.Key) { k.Proto = 6 }, func(k *api.Key) { k.Dscp = 0 },
	}
	k := api.Key{V: 4, Src: [16]byte{10, 7, 15: 1}, Dst: [16]byte{10, 1, 9}, Proto: 17, Dscp: 46, Ports: true, SrcPort: 7, DstPort: 53}
	if got := shadow.Why(r, k); got != -1 {
		t.Errorf("Why = %d", got)
	}
	// Of several requirements that are not satisfied the first one is told.
	for set := 1; set < 64; set++ {
		k, first := k, -1
		for i := len(changes) - 1; i >= 0; i-- {
			if set>>i&1 == 1 {
				changes[i](&k)
				first = i
			}
		}
		if got := shadow.Why(r, k); got != first {
			t.Errorf("Why(%v) = %d, not %d", k, got, first)
		}
	}
	for _, v := range []int{0, 5, 6, -4, math.MinInt} {
		k := k
		k.V = v
		if got := shadow.Why(r, k); got != 0 {
			t.Errorf("Why of version %d = %d", v, got)
		}
	}
}

// A key without ports lacks the first port of which something is asked, and none where nothing is.
func TestWhyWithoutPorts(t *testing.T) {
	for _, c := range []struct {
		text string
		want int
	}{{"::/0 ::/0 5 * * * 1", 2}, {"::/0 ::/0 * 5 * * 1", 3}, {"::/0 ::/0 5 5 * * 1", 2}, {"::/0 ::/0 * 0-65534 9 9 1", 3}, {"::/0 ::/0 * * 9 * 1", 4}, {"::/0 ::/0 * * * 9 1", 5}, {"::/0 ::/0 * * * * 1", -1}} {
		if got := shadow.Why(of(c.text), api.Key{V: 6, SrcPort: 5, DstPort: 5}); got != c.want {
			t.Errorf("Why of %s = %d, not %d", c.text, got, c.want)
		}
	}
}

// Each word of a part against each number, where the rest asks nothing.
func TestWhyOfOnePart(t *testing.T) {
	draw := rand.New(rand.NewSource(240))
	for _, v := range []int{4, 6} {
		for part, l := range words(v) {
			for _, word := range l {
				r := oneOf(v, part, word, "3")
				for _, k := range keys(draw, r) {
					want := -1
					switch {
					case k.V != v:
						want = 0
					case !rule.Matches(r, k):
						want = part
					}
					if got := shadow.Why(r, k); got != want {
						t.Errorf("Why(%s, %v) = %d, not %d", rule.Print(r), k, got, want)
					}
				}
			}
		}
	}
}

func TestWhyOfDrawn(t *testing.T) {
	draw := rand.New(rand.NewSource(241))
	var told [8]int
	for range 20000 {
		r := drawn(draw)
		s, _ := sieve.New([]api.Rule{r})
		for _, k := range keys(draw, r)[:4] {
			// Each table of the rule alone tells whether its part is satisfied.
			want := -1
			for i, row := range s.Rows(k) {
				if row[0] == 0 {
					want = i
					break
				}
			}
			got := shadow.Why(r, k)
			if got != want || got == -1 != rule.Matches(r, k) {
				t.Fatalf("Why(%s, %v) = %d, not %d", rule.Print(r), k, got, want)
			}
			told[got+2]++
		}
	}
	if told[1] < 1000 || told[2] < 1000 {
		t.Errorf("told: %v", told)
	}
}

func TestWhyOfInvalid(t *testing.T) {
	for _, l := range invalid() {
		for _, bad := range l {
			for _, k := range []api.Key{{}, {V: 4}, {V: 6, Ports: true}, {V: 4, Src: [16]byte{10}, Dst: [16]byte{10}, Proto: 1, Dscp: 46, Ports: true, SrcPort: 53, DstPort: 53}} {
				if got := shadow.Why(bad, k); got != -2 {
					t.Errorf("Why(%v, %v) = %d", bad, k, got)
				}
			}
		}
	}
}

// P3 of the general rules

func TestArgumentsStay(t *testing.T) {
	draw := rand.New(rand.NewSource(242))
	for n := range 40 {
		back := append(drawnList(draw, n), api.Rule{}, rule.Any(9, 99))
		before := slices.Clone(back)
		shadow.Lint(back[:n])
		shadow.Prune(back[:n])
		if !slices.Equal(back, before) {
			t.Fatalf("the rules became %v", back)
		}
	}
}

// What is told is the caller's: to change it changes neither the rules nor what is told later.
func TestAnswersAreNewMemory(t *testing.T) {
	draw := rand.New(rand.NewSource(243))
	for _, l := range [][]api.Rule{list("::/0 ::/0 * * * * 1"), list("::/0 ::/0 53 * * * 1", "::/0 ::/0 * * * * 2"), drawnList(draw, 60)} {
		before := slices.Clone(l)
		notes, _ := shadow.Lint(l)
		kept, _ := shadow.Prune(l)
		wantNotes, wantKept := slices.Clone(notes), slices.Clone(kept)
		clear(notes[:cap(notes)])
		clear(kept[:cap(kept)])
		if !slices.Equal(l, before) {
			t.Fatalf("the rules became %v", l)
		}
		checkLint(t, l, wantNotes...)
		checkPrune(t, l, wantKept)
	}
}
