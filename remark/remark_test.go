package remark_test

import (
	"bytes"
	"fmt"
	"math"
	"math/rand"
	"strings"
	"testing"

	"weighbridge/api"
	"weighbridge/build"
	"weighbridge/fourhead"
	"weighbridge/onesum"
	"weighbridge/packet"
	"weighbridge/remark"
)

// plans tells plans of packets without a defect, of both versions and of all kinds of fragments.
func plans() []api.Plan {
	src, dst := [16]byte{10, 0, 0, 1, 0xff, 0xff, 0xff}, [16]byte{192, 168, 0, 199, 0xff, 0xff, 0xff}
	udp, tail := []byte{0, 53, 4, 1, 0, 10, 0, 0, 7, 7}, []byte{9, 8, 7}
	four := api.Plan{V: 4, Src: src, Dst: dst, Ttl: 64, Id: 0xabcd, Proto: 17, Payload: udp}
	six := api.Plan{V: 6, Src: src, Dst: dst, Ttl: 64, Proto: 17, Payload: udp}
	hop, rest := api.Ext{Body: make([]byte, 6)}, api.Ext{Kind: 60, Body: make([]byte, 14)}
	first, later := api.Ext{Kind: 44, Body: []byte{0, 1, 1, 2, 3, 4}}, api.Ext{Kind: 44, Body: []byte{0, 9, 1, 2, 3, 4}}
	l := []api.Plan{{V: 4}, {V: 6, Proto: 59}, {V: 4, Trailing: tail}, {V: 6, Proto: 59, Trailing: tail}, four, six}
	add := func(p api.Plan, changes ...func(p *api.Plan)) {
		for _, change := range changes {
			changed := p
			change(&changed)
			l = append(l, changed)
		}
	}
	add(four, func(p *api.Plan) { p.Options = []byte{7, 3, 1} }, func(p *api.Plan) { p.Options = make([]byte, 40) }, func(p *api.Plan) { p.More = true }, func(p *api.Plan) { p.Offset = 99 },
		func(p *api.Plan) { p.Offset, p.Payload = 1, nil }, func(p *api.Plan) { p.Trailing = tail }, func(p *api.Plan) { p.Proto, p.Payload = 1, []byte{5} })
	add(six, func(p *api.Plan) { p.Exts = []api.Ext{hop, rest} }, func(p *api.Plan) { p.Exts = []api.Ext{first} }, func(p *api.Plan) { p.Exts = []api.Ext{hop, later} }, func(p *api.Plan) { p.Trailing = tail },
		func(p *api.Plan) { p.Proto, p.Payload = 58, []byte{5} })
	return l
}

// made tells the packet of a plan.
func made(p api.Plan) []byte {
	b, e := build.Build(p)
	if e != api.OK {
		panic("no such packet")
	}
	return b
}

// with tells bytes with one at a place changed.
func with(b []byte, at int, x byte) []byte {
	out := bytes.Clone(b)
	out[at] = x
	return out
}

// sealed tells a packet of version 4 with the right checksum in its header.
func sealed(b []byte) []byte {
	out, e := fourhead.Seal(b)
	if e != api.OK {
		panic("no header to seal")
	}
	return out
}

// full tells bytes of both versions that the plans do not come to: flags and a flow whose bits are all set.
func full() [][]byte {
	four, six := made(plans()[4]), made(plans()[5])
	six[1], six[2], six[3] = six[1]|15, 255, 255
	return [][]byte{sealed(with(four, 6, 0x40)), sealed(with(four, 6, 0x80)), sealed(with(four, 6, 0xe0)), sealed(with(four, 6, 0xff)), six}
}

// packets tells packets without a defect.
func packets() [][]byte {
	l := full()
	for _, p := range plans() {
		l = append(l, made(p))
	}
	return l
}

// marked tells a packet without a defect with another code point, byte by byte.
func marked(b []byte, dscp int) []byte {
	out := bytes.Clone(b)
	if b[0]>>4 == 6 {
		out[0] = byte(0x60 + dscp/4)
		out[1] = byte(dscp%4*64) + b[1]%64
		return out
	}
	out[1] = byte(dscp*4) + b[1]%4
	sum := 0
	for at := 0; at < 4*int(b[0]%16); at += 2 {
		if at != 10 {
			sum += 256*int(out[at]) + int(out[at+1])
		}
	}
	check := (65535 - sum%65535) % 65535
	out[10], out[11] = byte(check>>8), byte(check)
	return out
}

// check holds that a packet without a defect is marked as it should be.
func check(t *testing.T, b []byte, dscp int) {
	t.Helper()
	if got, d, e := remark.Mark(b, dscp); !bytes.Equal(got, marked(b, dscp)) || d != api.Sound || e != api.OK {
		t.Errorf("Mark(%x, %d) = %x, %d, %d, not %x", b, dscp, got, d, e, marked(b, dscp))
	}
}

// broken are packets with defects, and the first defect of each.
func broken() []struct {
	b []byte
	d api.Defect
} {
	four, six := made(plans()[4]), made(plans()[5])
	udp, ext := []byte{0, 53, 4, 1, 0, 9, 0, 0}, []byte{60, 0, 0, 0, 0, 0, 0, 0}
	// next tells a packet of version 6 with the number of what follows its header.
	next := func(kind int, rest ...byte) []byte {
		b := append(bytes.Clone(six[:40]), rest...)
		b[5], b[6] = byte(len(rest)), byte(kind)
		return b
	}
	split := []byte{44, 0, 0, 0, 0, 0, 0, 0}
	return []struct {
		b []byte
		d api.Defect
	}{
		{nil, api.DefEmpty}, {[]byte{}, api.DefEmpty}, {[]byte{1}, api.DefVersion}, {with(four, 0, 0x55), api.DefVersion}, {make([]byte, 99), api.DefVersion},
		{four[:1], api.DefShort}, {four[:19], api.DefShort}, {six[:1], api.DefShort}, {six[:39], api.DefShort}, {with(four, 0, 0x44), api.DefIhl}, {with(four, 0, 0x4f), api.DefHead},
		{sealed(with(four, 3, 19)), api.DefTotal}, {four[:29], api.DefCut}, {six[:49], api.DefCut}, {made(api.Plan{V: 4, Options: []byte{7, 9}}), api.DefOption}, {with(four, 11, four[11]^1), api.DefSum},
		// A checksum is held against the packet as it came: that of another code point is wrong.
		{with(four, 1, 4), api.DefSum}, {with(four, 10, ^four[10]), api.DefSum},
		{next(60, ext[:7]...), api.DefExt}, {next(60, append(with(ext, 0, 0), ext...)...), api.DefExt}, {next(60, append(with(ext, 0, 0), with(ext, 0, 59)...)...), api.DefHop}, {next(60, bytes.Repeat(ext, 9)...), api.DefMany},
		{next(44, append(bytes.Clone(split), with(split, 0, 59)...)...), api.DefTwice}, {made(api.Plan{V: 4, Offset: 8191, Payload: make([]byte, 8)}), api.DefEnd}, {next(44, append([]byte{59, 0, 255, 248, 0, 0, 0, 0}, udp...)...), api.DefEnd},
		{next(17, udp[:7]...), api.DefPorts}, {made(api.Plan{V: 4, Proto: 6, Payload: udp}), api.DefPorts}, {next(17, udp...), api.DefData}, {made(api.Plan{V: 4, Proto: 17, Payload: udp}), api.DefData},
	}
}

// P16.1

func TestNoCodePoint(t *testing.T) {
	all := packets()
	for _, c := range broken() {
		all = append(all, c.b)
	}
	for _, b := range all {
		for _, dscp := range []int{-1, -2, -64, 64, 65, 127, 128, 255, 256, 1 << 32, 1<<32 + 5, math.MaxInt, math.MinInt, math.MinInt + 5} {
			if got, d, e := remark.Mark(b, dscp); got != nil || d != api.Sound || e != api.ErrPoint {
				t.Errorf("Mark(%x, %d) = %x, %d, %d", b, dscp, got, d, e)
			}
		}
	}
}

func TestDefects(t *testing.T) {
	seen := map[api.Defect]bool{}
	for _, c := range broken() {
		seen[c.d] = true
		if _, d := packet.Parse(c.b); d != c.d {
			t.Errorf("Parse(%x) = %d, not %d", c.b, d, c.d)
		}
		for dscp := range 64 {
			if got, d, e := remark.Mark(c.b, dscp); got != nil || d != c.d || e != api.OK {
				t.Errorf("Mark(%x, %d) = %x, %d, %d, not %d", c.b, dscp, got, d, e, c.d)
			}
		}
	}
	for d := api.DefEmpty; d <= api.DefData; d++ {
		if !seen[d] {
			t.Errorf("there is no packet with the defect %d", d)
		}
	}
}

func TestMark(t *testing.T) {
	four, six := plans()[4], plans()[5]
	four.Dscp, four.Ecn, six.Dscp, six.Ecn = 46, 1, 46, 1
	cases := []struct {
		b    []byte
		dscp int
		want string
	}{
		{made(four), 46, "45b9001eabcd0000401102d9"}, {made(four), 0, "4501001eabcd000040110391"}, {made(four), 63, "45fd001eabcd000040110295"}, {made(four), 10, "4529001eabcd000040110369"},
		{made(six), 46, "6b900000000a1140"}, {made(six), 0, "60100000000a1140"}, {made(six), 63, "6fd00000000a1140"}, {made(six), 1, "60500000000a1140"}, {made(six), 10, "62900000000a1140"},
		{full()[4], 10, "628fffff000a1140"}, {full()[4], 63, "6fcfffff000a1140"},
	}
	for _, c := range cases {
		n := len(c.want) / 2
		got, d, e := remark.Mark(c.b, c.dscp)
		if len(got) != len(c.b) || fmt.Sprintf("%x", got[:n]) != c.want || !bytes.Equal(got[n:], c.b[n:]) || d != api.Sound || e != api.OK {
			t.Errorf("Mark(%x, %d) = %x, %d, %d", c.b, c.dscp, got, d, e)
		}
	}
}

// TestMarkIsAsPlanned holds that a marked packet is the one that would have been made with that code point.
func TestMarkIsAsPlanned(t *testing.T) {
	for _, p := range plans() {
		for old := range 64 {
			for ecn := range 4 {
				p.Dscp, p.Ecn = old, ecn
				b := made(p)
				for dscp := ecn; dscp < 64; dscp += 3 {
					p.Dscp = dscp
					if got, d, e := remark.Mark(b, dscp); !bytes.Equal(got, made(p)) || d != api.Sound || e != api.OK {
						t.Fatalf("Mark(%x, %d) = %x, %d, %d, not %x", b, dscp, got, d, e, made(p))
					}
				}
			}
		}
	}
}

func TestMarkOfEveryCodePoint(t *testing.T) {
	for _, b := range packets() {
		for dscp := range 64 {
			check(t, b, dscp)
			for x := range 256 {
				old := with(b, 1, byte(x))
				if b[0]>>4 == 4 {
					old = sealed(old)
				}
				check(t, old, dscp)
			}
		}
	}
}

func TestMarkOfEverySum(t *testing.T) {
	b := made(plans()[4])
	zero := 0
	for id := range 65536 {
		b[4], b[5] = byte(id>>8), byte(id)
		b = sealed(b)
		for _, dscp := range []int{0, 46, id % 64} {
			check(t, b, dscp)
			if got, _, _ := remark.Mark(b, dscp); got[10] == 0 && got[11] == 0 {
				zero++
			} else if got[10] == 255 && got[11] == 255 {
				t.Errorf("Mark(%x, %d) = %x", b, dscp, got)
			}
		}
		if t.Failed() {
			t.FailNow()
		}
	}
	if zero < 3 {
		t.Errorf("%d checksums became 0", zero)
	}
}

// TestSumThatIsAllOnes holds that a checksum FFFF, which is right where 0 is, becomes 0, and no other one stays as it was.
func TestSumThatIsAllOnes(t *testing.T) {
	seen := 0
	for _, options := range [][]byte{nil, {1, 1, 1}, make([]byte, 40)} {
		for dscp := range 64 {
			b := made(api.Plan{V: 4, Src: [16]byte{1, 2, 3, 4}, Ttl: 9, Proto: 1, Dscp: dscp, Options: options})
			// What the checksum is with the number 0 is the number with which it is 0.
			b[4], b[5], b[10], b[11] = b[10], b[11], 255, 255
			if _, d := packet.Parse(b); d != api.Sound || !onesum.Good(b[:4*int(b[0]&15)]) {
				t.Fatalf("Parse(%x) = %d", b, d)
			}
			got, _, _ := remark.Mark(b, dscp)
			if want := with(with(b, 10, 0), 11, 0); !bytes.Equal(got, want) {
				t.Errorf("Mark(%x, %d) = %x", b, dscp, got)
			}
			for other := range 64 {
				check(t, b, other)
			}
			seen++
		}
	}
	if seen != 3*64 {
		t.Errorf("%d packets were marked", seen)
	}
}

func TestMarkOfLongPackets(t *testing.T) {
	for _, p := range []api.Plan{{V: 4, Payload: make([]byte, 65515)}, {V: 6, Proto: 59, Payload: make([]byte, 65535)}, {V: 4, Trailing: make([]byte, 200000)}, {V: 6, Proto: 59, Trailing: make([]byte, 200000)}} {
		rand.New(rand.NewSource(61)).Read(p.Payload)
		rand.New(rand.NewSource(67)).Read(p.Trailing)
		for _, dscp := range []int{0, 1, 46, 63} {
			if got, _, _ := remark.Mark(made(p), dscp); !bytes.Equal(got, marked(made(p), dscp)) {
				t.Errorf("Mark of %d bytes of version %d is another packet", len(made(p)), p.V)
			}
		}
	}
}

func TestMarkOfDrawnBytes(t *testing.T) {
	draw := rand.New(rand.NewSource(71))
	all, sound := packets(), 0
	for range 60000 {
		b := bytes.Clone(all[draw.Intn(len(all))])
		for range draw.Intn(3) {
			b[draw.Intn(len(b))] ^= 1 << draw.Intn(8)
		}
		if b[0]>>4 == 4 && draw.Intn(4) > 0 {
			if again, e := fourhead.Seal(b); e == api.OK {
				b = again
			}
		}
		b = b[:len(b)-draw.Intn(20)/19]
		dscp := draw.Intn(64)
		if _, d := packet.Parse(b); d == api.Sound {
			sound++
			check(t, b, dscp)
		} else if got, f, e := remark.Mark(b, dscp); got != nil || f != d || e != api.OK {
			t.Errorf("Mark(%x, %d) = %x, %d, %d, not %d", b, dscp, got, f, e, d)
		}
		if t.Failed() {
			t.FailNow()
		}
	}
	if sound < 10000 || sound > 59000 {
		t.Errorf("%d packets had no defect", sound)
	}
}

// P16.2

// unlike tells how many bits are unlike, taken from their digits.
func unlike(a, b []byte) int {
	text := [2]string{}
	for i, l := range [2][]byte{a, b} {
		for _, x := range l {
			text[i] += fmt.Sprintf("%08b", x)
		}
	}
	n := 0
	for i := range max(len(text[0]), len(text[1])) {
		if i >= len(text[0]) || i >= len(text[1]) || text[0][i] != text[1][i] {
			n++
		}
	}
	return n
}

func TestUnlike(t *testing.T) {
	cases := []struct {
		a, b string
		want int
	}{
		{"", "", 0}, {"\x00", "\x00", 0}, {"\x00", "\x01", 1}, {"\x00", "\x80", 1}, {"\x00", "\xff", 8}, {"\xf0", "\x0f", 8}, {"\x55", "\x54", 1}, {"\xaa\x01", "\xab\x02", 3},
		{"", "\x00", 8}, {"", "\xff\xff", 16}, {"\x01", "\x01\x00", 8}, {"\x01", "\x00\x00", 9}, {"\x00\xff\xff\xff", "\xff", 32}, {"abc", "abc", 0}, {"abc", "abcd", 8}, {"abc", "bc", 2 + 1 + 8},
	}
	for _, c := range cases {
		for _, pair := range [][2]string{{c.a, c.b}, {c.b, c.a}} {
			if got := remark.Unlike([]byte(pair[0]), []byte(pair[1])); got != c.want {
				t.Errorf("Unlike(%x, %x) = %d, not %d", pair[0], pair[1], got, c.want)
			}
		}
	}
}

func TestUnlikeOfEveryTwoBytes(t *testing.T) {
	for x := range 256 {
		for y := range 256 {
			want := strings.Count(fmt.Sprintf("%b", x^y), "1")
			if got := remark.Unlike([]byte{7, byte(x)}, []byte{7, byte(y)}); got != want {
				t.Errorf("Unlike of %x and %x = %d, not %d", x, y, got, want)
			}
		}
	}
}

func TestUnlikeOfDrawnBytes(t *testing.T) {
	draw := rand.New(rand.NewSource(73))
	for range 3000 {
		a, b := make([]byte, draw.Intn(30)), make([]byte, draw.Intn(30))
		draw.Read(a)
		draw.Read(b)
		if got := remark.Unlike(a, b); got != unlike(a, b) || remark.Unlike(b, a) != got || remark.Unlike(a, a) != 0 {
			t.Errorf("Unlike(%x, %x) = %d, not %d", a, b, got, unlike(a, b))
		}
	}
	if got := remark.Unlike(make([]byte, 65575), bytes.Repeat([]byte{0xff}, 65574)); got != 8*65575 {
		t.Errorf("Unlike of 65575 bytes = %d", got)
	}
	if got := remark.Unlike(nil, make([]byte, 1<<20)); got != 1<<23 || remark.Unlike(nil, nil) != 0 {
		t.Errorf("Unlike of nothing = %d", got)
	}
}

func TestExample(t *testing.T) {
	old := made(plans()[5])
	now, d, e := remark.Mark(old, 63)
	if got := remark.Unlike(old, now); got != 6 || d != api.Sound || e != api.OK {
		t.Errorf("Unlike(%x, %x) = %d", old, now, got)
	}
}

// P16.3

// mayChange tells the bits of a packet that marking may change.
func mayChange(b []byte) []byte {
	mask := make([]byte, len(b))
	if b[0]>>4 == 6 {
		mask[0], mask[1] = 0x0f, 0xc0
		return mask
	}
	mask[1], mask[10], mask[11] = 0xfc, 0xff, 0xff
	return mask
}

func TestWhatStays(t *testing.T) {
	for _, b := range packets() {
		h, _ := packet.Parse(b)
		_, ecn, _ := packet.Point(b)
		for dscp := range 64 {
			got, _, _ := remark.Mark(b, dscp)
			if len(got) != len(b) {
				t.Fatalf("Mark(%x, %d) = %x", b, dscp, got)
			}
			for i, x := range mayChange(b) {
				if (got[i]^b[i])&^x != 0 {
					t.Errorf("Mark(%x, %d) = %x", b, dscp, got)
				}
			}
			most := 6
			if b[0]>>4 == 4 {
				most = 6 + 16
			}
			if n := remark.Unlike(got, b); n > most {
				t.Errorf("Mark(%x, %d) = %x changes %d bits", b, dscp, got, n)
			}
			again, d := packet.Parse(got)
			point, low, ok := packet.Point(got)
			if again != h || d != api.Sound || point != dscp || low != ecn || !ok {
				t.Errorf("Parse(%x) = %v, %d, not %v, and Point = %d, %d", got, again, d, h, point, low)
			}
		}
	}
}

func TestMarkingTwice(t *testing.T) {
	for _, b := range packets() {
		for first := range 64 {
			once, _, _ := remark.Mark(b, first)
			for second := range 64 {
				got, d, e := remark.Mark(once, second)
				want, _, _ := remark.Mark(b, second)
				if !bytes.Equal(got, want) || d != api.Sound || e != api.OK {
					t.Fatalf("Mark(%x, %d) = %x, %d, %d, not %x", once, second, got, d, e, want)
				}
			}
		}
	}
}

// P1 of the general rules: every call ends, whatever it is given.
func TestAnything(t *testing.T) {
	draw := rand.New(rand.NewSource(79))
	for range 60000 {
		b := make([]byte, draw.Intn(100))
		draw.Read(b)
		if len(b) > 0 && draw.Intn(4) > 0 {
			b[0] = []byte{0x45, 0x46, 0x60, 0x6f}[draw.Intn(4)]
		}
		_, want := packet.Parse(b)
		got, d, e := remark.Mark(b, draw.Intn(64))
		if d != want || e != api.OK || (got == nil) != (d != api.Sound) {
			t.Fatalf("Mark(%x) = %x, %d, %d", b, got, d, e)
		}
	}
}

// P3 of the general rules

func TestArgumentsStay(t *testing.T) {
	for _, b := range packets() {
		whole := append(bytes.Clone(b), bytes.Repeat([]byte{0x5a}, 64)...)
		kept := bytes.Clone(whole)
		for n := range len(b) + 1 {
			remark.Mark(whole[:n], 21)
			remark.Unlike(whole[:n], whole[n:])
			remark.Unlike(whole[n:], whole[:n])
			if !bytes.Equal(whole, kept) {
				t.Fatalf("the argument became %x", whole)
			}
		}
	}
}

func TestResultsAreNewMemory(t *testing.T) {
	for _, b := range packets() {
		dscp, _, _ := packet.Point(b)
		for _, now := range []int{dscp, 21} {
			kept := bytes.Clone(b)
			got, _, _ := remark.Mark(b, now)
			want := bytes.Clone(got)
			got = got[:cap(got)]
			for i := range got {
				got[i] ^= 0xff
			}
			if again, _, _ := remark.Mark(b, now); !bytes.Equal(b, kept) || !bytes.Equal(again, want) {
				t.Errorf("Mark(%x, %d) = %x, not %x", b, now, again, want)
			}
		}
	}
}

func TestOnlyTheLengthCounts(t *testing.T) {
	for _, b := range packets() {
		for n := range b {
			got, d, _ := remark.Mark(b[:n], 21)
			want, f, _ := remark.Mark(bytes.Clone(b[:n:n]), 21)
			if !bytes.Equal(got, want) || d != f {
				t.Errorf("of %d bytes Mark = %x, %d, not %x, %d", n, got, d, want, f)
			}
		}
	}
}

// P5 of the general rules: a call answers the same whatever was called ahead of it.
func TestNothingIsKept(t *testing.T) {
	for range 3 {
		for i, b := range packets() {
			check(t, b, i)
			remark.Mark(nil, i)
			remark.Mark(b, -1)
		}
	}
}
