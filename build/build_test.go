package build_test

import (
	"bytes"
	"encoding/hex"
	"fmt"
	"math"
	"math/rand"
	"slices"
	"testing"

	"weighbridge/api"
	"weighbridge/build"
	"weighbridge/extwalk"
	"weighbridge/fourhead"
	"weighbridge/packet"
	"weighbridge/ports"
)

// src and dst are the addresses of the plans; of version 4 only the first four bytes count.
var (
	src = [16]byte{10, 0, 0, 1, 5, 6, 7, 8, 9, 10, 11, 12, 13, 14, 15, 16}
	dst = [16]byte{192, 168, 0, 199, 21, 22, 23, 24, 25, 26, 27, 28, 29, 30, 31, 32}
)

// udp tells the bytes of a header of Udp from port 53 to port 1025, and of two more.
func udp() []byte {
	return []byte{0, 0x35, 4, 1, 0, 10, 0, 0, 0x77, 0x77}
}

// plan tells a plan of a version, with code point 46 and 1 beside it, that makes a packet of Udp.
func plan(v int) api.Plan {
	return api.Plan{V: v, Src: src, Dst: dst, Dscp: 46, Ecn: 1, Ttl: 64, Proto: 17, Payload: udp()}
}

// changed tells a plan of a version in which something is another.
func changed(v int, change func(p *api.Plan)) api.Plan {
	p := plan(v)
	change(&p)
	return p
}

// ext tells an extension header with so many bytes in its body.
func ext(kind, n int) api.Ext {
	return api.Ext{Kind: kind, Body: bytes.Repeat([]byte{0xa5}, n)}
}

// split tells a fragment header.
func split(offset, more int) api.Ext {
	return api.Ext{Kind: 44, Body: []byte{byte(offset >> 5), byte(offset<<3 | more), 1, 2, 3, 4}}
}

// hops tells so many extension headers of eight bytes.
func hops(n int) []api.Ext {
	return slices.Repeat([]api.Ext{ext(60, 6)}, n)
}

// field is a number of a plan, and the greatest that it may be.
type field struct {
	n    *int
	high int
	e    api.Errno
}

// fields tells the numbers of a plan, but for its version.
func fields(p *api.Plan) []field {
	return []field{
		{&p.Dscp, 63, api.ErrPoint}, {&p.Ecn, 3, api.ErrRange}, {&p.Ttl, 255, api.ErrRange},
		{&p.Proto, 255, api.ErrRange}, {&p.Id, 65535, api.ErrRange}, {&p.Offset, 8191, api.ErrRange},
	}
}

// ahead tells how many bytes a plan that is right puts ahead of its payload.
func ahead(p api.Plan) int {
	n := 40
	if p.V == 4 {
		n = 20 + len(p.Options)
		for n%4 > 0 {
			n++
		}
	}
	for _, x := range p.Exts {
		n += 2 + len(x.Body)
	}
	return n
}

// wrong tells what is wrong with a plan.
func wrong(p api.Plan) api.Errno {
	if p.V != 4 && p.V != 6 {
		return api.ErrVersion
	}
	for _, x := range fields(&p) {
		if *x.n < 0 || *x.n > x.high {
			return x.e
		}
	}
	if p.V == 4 {
		switch {
		case len(p.Exts) > 0:
			return api.ErrKind
		case len(p.Options) > 40 || ahead(p)+len(p.Payload) > 65535:
			return api.ErrLong
		}
		return api.OK
	}
	_, f := extwalk.Write(p.Exts, p.Proto)
	switch {
	case len(p.Options)+p.Id+p.Offset > 0 || p.More:
		return api.ErrKind
	case f.Errno != api.OK:
		return f.Errno
	case ahead(p)+len(p.Payload) > 65535+40:
		return api.ErrLong
	}
	return api.OK
}

// digits tells the digits of a header of version 4, without its sum and without options.
func digits(p api.Plan) string {
	offset := p.Offset
	if p.More {
		offset += 8192
	}
	text := fmt.Sprintf("4%x%02x%04x%04x%04x", ahead(p)/4, 4*p.Dscp+p.Ecn, ahead(p)+len(p.Payload), p.Id, offset)
	return text + fmt.Sprintf("%02x%02x0000%x%x", p.Ttl, p.Proto, p.Src[:4], p.Dst[:4])
}

// digits6 tells the digits of the headers of version 6.
func digits6(p api.Plan) string {
	kinds := []int{}
	for _, x := range p.Exts {
		kinds = append(kinds, x.Kind)
	}
	kinds = append(kinds, p.Proto)
	text := fmt.Sprintf("6%02x00000%04x%02x%02x%x%x", 4*p.Dscp+p.Ecn, ahead(p)-40+len(p.Payload), kinds[0], p.Ttl, p.Src, p.Dst)
	for i, x := range p.Exts {
		n := (len(x.Body) + 2) / 8
		switch x.Kind {
		case 44:
			n = 1
		case 51:
			n = (len(x.Body)+2)/4 - 1
		}
		text += fmt.Sprintf("%02x%02x%x", kinds[i+1], n-1, x.Body)
	}
	return text
}

// exact tells the bytes of a plan that is right, put together from their digits.
func exact(p api.Plan) []byte {
	if p.V == 6 {
		return slices.Concat(unhex(digits6(p)), p.Payload, p.Trailing)
	}
	header := append(unhex(digits(p)), p.Options...)
	for len(header)%4 > 0 {
		header = append(header, 0)
	}
	sum := 0
	for i := 0; i < len(header); i += 2 {
		sum += 256*int(header[i]) + int(header[i+1])
	}
	check := (65535 - sum%65535) % 65535
	header[10], header[11] = byte(check>>8), byte(check)
	return slices.Concat(header, p.Payload, p.Trailing)
}

// unhex tells the bytes of digits.
func unhex(s string) []byte {
	b, err := hex.DecodeString(s)
	if err != nil {
		panic(err)
	}
	return b
}

// start tells the first few bytes of a packet.
func start(b []byte) []byte {
	return b[:min(len(b), 100)]
}

// check holds all calls against what is exact for a plan.
func check(t *testing.T, p api.Plan) {
	t.Helper()
	var want []byte
	n, e := 0, wrong(p)
	if e == api.OK {
		want = exact(p)
		n = len(want) - len(p.Trailing)
	}
	if got := build.Check(p); got != e {
		t.Errorf("Check = %d, not %d, of %+v", got, e, p)
	}
	if got, f := build.Build(p); !bytes.Equal(got, want) || f != e || e != api.OK && got != nil {
		t.Errorf("Build = %x, %d, not %x, %d", start(got), f, start(want), e)
	}
	if got := build.Size(p); got != n {
		t.Errorf("Size = %d, not %d", got, n)
	}
}

// refused holds that all calls refuse a plan with an error.
func refused(t *testing.T, p api.Plan, e api.Errno) {
	t.Helper()
	if got := build.Check(p); got != e {
		t.Errorf("Check = %d, not %d", got, e)
	}
	if got, f := build.Build(p); got != nil || f != e {
		t.Errorf("Build = %x, %d, not %d", start(got), f, e)
	}
	if got := build.Size(p); got != 0 {
		t.Errorf("Size = %d", got)
	}
}

// P15.1

func TestVersion(t *testing.T) {
	for _, v := range []int{0, 1, 3, 5, 7, 10, 44, 46, 64, 66, -4, -6, -1, 4 + 256, 6 + 1<<32, math.MinInt, math.MaxInt} {
		for _, like := range []int{4, 6} {
			p := plan(like)
			p.V = v
			refused(t, p, api.ErrVersion)
		}
	}
	refused(t, api.Plan{}, api.ErrVersion)
}

func TestEveryNumber(t *testing.T) {
	for _, v := range []int{4, 6} {
		for i, x := range fields(&api.Plan{}) {
			for _, n := range []int{-1, -2, -x.high - 1, x.high + 1, x.high + 2, 2*x.high + 2, 1 << 32, 1<<32 + 5, math.MaxInt, math.MinInt, math.MinInt + 5} {
				p := plan(v)
				*fields(&p)[i].n = n
				refused(t, p, x.e)
			}
			for n := 0; n <= x.high; n += 1 + x.high/300 {
				p := plan(v)
				*fields(&p)[i].n = n
				check(t, p)
			}
			p := plan(v)
			*fields(&p)[i].n = x.high
			check(t, p)
		}
	}
}

func TestKindOfFour(t *testing.T) {
	for _, l := range [][]api.Ext{hops(1), {{}}, {{Kind: -1}}, hops(9), {split(1, 0)}} {
		p := plan(4)
		p.Exts = l
		refused(t, p, api.ErrKind)
		p.Options, p.Payload = make([]byte, 41), make([]byte, 70000)
		refused(t, p, api.ErrKind)
	}
	p := plan(4)
	p.Exts = []api.Ext{}
	check(t, p)
	// No number is the kind of an extension header to version 4.
	for proto := range 256 {
		p.Proto = proto
		if e := build.Check(p); e != api.OK {
			t.Errorf("Check with protocol %d = %d", proto, e)
		}
	}
}

func TestLongOfFour(t *testing.T) {
	for n := range 60 {
		p := plan(4)
		p.Options = make([]byte, n)
		if n > 40 {
			refused(t, p, api.ErrLong)
			continue
		}
		most := 65515 - []int{0, 4, 4, 4, 4, 8, 8, 8, 8, 12, 12, 12, 12, 16, 16, 16, 16, 20, 20, 20, 20, 24, 24, 24, 24, 28, 28, 28, 28, 32, 32, 32, 32, 36, 36, 36, 36, 40, 40, 40, 40}[n]
		p.Payload, p.Trailing = make([]byte, most), make([]byte, 9)
		if e := build.Check(p); e != api.OK || build.Size(p) != 65535 {
			t.Errorf("Check of %d option bytes and %d of payload = %d, and Size = %d", n, most, e, build.Size(p))
		}
		check(t, p)
		for _, more := range []int{1, 2, 5, 65536} {
			p.Payload = make([]byte, most+more)
			refused(t, p, api.ErrLong)
		}
	}
	p := plan(4)
	p.Options = make([]byte, 70000)
	refused(t, p, api.ErrLong)
	// What is trailing is no part of the packet.
	p = plan(4)
	p.Trailing = make([]byte, 200000)
	check(t, p)
}

func TestKindOfSix(t *testing.T) {
	for _, change := range []func(p *api.Plan){
		func(p *api.Plan) { p.Options = []byte{0} },
		func(p *api.Plan) { p.Options = make([]byte, 50) },
		func(p *api.Plan) { p.Id = 1 },
		func(p *api.Plan) { p.Id = 65535 },
		func(p *api.Plan) { p.Offset = 1 },
		func(p *api.Plan) { p.Offset = 8191 },
		func(p *api.Plan) { p.More = true },
	} {
		p := plan(6)
		change(&p)
		refused(t, p, api.ErrKind)
		p.Exts, p.Proto, p.Payload = []api.Ext{ext(51, 1)}, 44, make([]byte, 70000)
		refused(t, p, api.ErrKind)
	}
	p := plan(6)
	p.Options, p.Exts = []byte{}, []api.Ext{}
	check(t, p)
}

func TestExtsOfSix(t *testing.T) {
	for _, proto := range []int{0, 43, 44, 51, 60, 135, 139, 140} {
		p := plan(6)
		p.Proto = proto
		refused(t, p, api.ErrRange)
		p.Exts = hops(9)
		refused(t, p, api.ErrRange)
	}
	cases := []struct {
		l []api.Ext
		e api.Errno
	}{
		{hops(9), api.ErrMany}, {append(hops(8), ext(1, 0)), api.ErrMany},
		{[]api.Ext{ext(1, 6)}, api.ErrKind}, {[]api.Ext{ext(17, 6)}, api.ErrKind}, {[]api.Ext{ext(-1, 6)}, api.ErrKind}, {[]api.Ext{ext(256+60, 6)}, api.ErrKind}, {append(hops(3), ext(59, 6)), api.ErrKind},
		{[]api.Ext{{Kind: 60}}, api.ErrForm}, {[]api.Ext{ext(60, 5)}, api.ErrForm}, {[]api.Ext{ext(60, 10)}, api.ErrForm}, {[]api.Ext{ext(44, 14)}, api.ErrForm}, {[]api.Ext{ext(51, 7)}, api.ErrForm}, {[]api.Ext{ext(51, 1030)}, api.ErrForm}, {[]api.Ext{ext(43, 2054)}, api.ErrForm},
		{append(hops(1), ext(0, 6)), api.ErrOrder}, {[]api.Ext{ext(0, 6), ext(0, 6)}, api.ErrOrder},
		{[]api.Ext{split(0, 0), split(0, 0)}, api.ErrTwice}, {append(hops(6), split(0, 1), split(0, 1)), api.ErrTwice},
		// The first one that is wrong counts.
		{[]api.Ext{ext(60, 5), ext(1, 6)}, api.ErrForm}, {[]api.Ext{ext(1, 6), ext(60, 5)}, api.ErrKind}, {[]api.Ext{split(0, 0), split(0, 0), ext(0, 6)}, api.ErrTwice}, {[]api.Ext{split(0, 0), ext(0, 6), split(0, 0)}, api.ErrOrder},
	}
	for _, c := range cases {
		p := plan(6)
		p.Exts = c.l
		refused(t, p, c.e)
		p.Payload = make([]byte, 70000)
		refused(t, p, c.e)
	}
	for _, l := range [][]api.Ext{hops(1), hops(8), {ext(0, 6), ext(43, 14), ext(44, 6), ext(51, 10), ext(60, 6), ext(135, 22), ext(139, 6), ext(140, 2046)}, {ext(51, 6)}, {ext(51, 1026)}, {split(8191, 1)}} {
		p := plan(6)
		p.Exts = l
		check(t, p)
	}
}

func TestLongOfSix(t *testing.T) {
	for n := range 9 {
		for _, l := range [][]api.Ext{hops(n), slices.Repeat([]api.Ext{ext(140, 2046)}, n), slices.Repeat([]api.Ext{ext(51, 10)}, n)} {
			p := plan(6)
			p.Exts = l
			most := 65535
			for _, x := range l {
				most -= len(x.Body) + 2
			}
			p.Payload, p.Trailing = make([]byte, most), make([]byte, 9)
			if e := build.Check(p); e != api.OK || build.Size(p) != api.MaxSize {
				t.Errorf("Check of %d headers and %d bytes of payload = %d, and Size = %d", n, most, e, build.Size(p))
			}
			check(t, p)
			for _, more := range []int{1, 2, 8, 65536} {
				p.Payload = make([]byte, most+more)
				refused(t, p, api.ErrLong)
			}
		}
	}
	p := plan(6)
	p.Trailing = make([]byte, 200000)
	check(t, p)
}

// TestOrderOfErrors mends what is wrong with a plan one by one, and holds that each error was hidden by those ahead of it.
func TestOrderOfErrors(t *testing.T) {
	type mend struct {
		e  api.Errno
		do func(p *api.Plan)
	}
	first := []mend{
		{api.ErrVersion, nil}, {api.ErrPoint, func(p *api.Plan) { p.Dscp = 1 }}, {api.ErrRange, func(p *api.Plan) { p.Ecn = 1 }}, {api.ErrRange, func(p *api.Plan) { p.Ttl = 1 }},
		{api.ErrRange, func(p *api.Plan) { p.Id = 1 }}, {api.ErrRange, func(p *api.Plan) { p.Proto = 44 }}, {api.ErrRange, func(p *api.Plan) { p.Offset = 1 }},
	}
	four := []mend{
		{api.ErrKind, func(p *api.Plan) { p.Exts = nil }}, {api.ErrLong, func(p *api.Plan) { p.Options = nil }}, {api.ErrLong, func(p *api.Plan) { p.Payload = nil }},
	}
	six := []mend{
		{api.ErrKind, func(p *api.Plan) { p.Options = nil }}, {api.ErrKind, func(p *api.Plan) { p.Id = 0 }}, {api.ErrKind, func(p *api.Plan) { p.Offset = 0 }}, {api.ErrKind, func(p *api.Plan) { p.More = false }},
		{api.ErrRange, func(p *api.Plan) { p.Proto = 59 }}, {api.ErrMany, func(p *api.Plan) { p.Exts = p.Exts[:8] }}, {api.ErrKind, func(p *api.Plan) { p.Exts = hops(8) }}, {api.ErrLong, func(p *api.Plan) { p.Payload = nil }},
	}
	for v, l := range map[int][]mend{4: slices.Concat(first, four), 6: slices.Concat(first, six)} {
		p := api.Plan{V: 5, Dscp: 64, Ecn: 4, Ttl: 256, Proto: -1, Id: -1, Offset: 8192, More: true, Options: make([]byte, 41), Exts: slices.Repeat([]api.Ext{{Kind: 1}}, 9), Payload: make([]byte, 65536)}
		l[0].do = func(p *api.Plan) { p.V = v }
		for i, x := range l {
			if e := build.Check(p); e != x.e {
				t.Errorf("of version %d, ahead of the mend %d, Check = %d, not %d", v, i, e, x.e)
			}
			refused(t, p, x.e)
			x.do(&p)
		}
		check(t, p)
		if e := build.Check(p); e != api.OK {
			t.Errorf("of version %d Check at last = %d", v, e)
		}
	}
}

// P15.2 and P15.3

func TestBuild(t *testing.T) {
	addresses := "0a000001c0a800c7"
	long := fmt.Sprintf("%x%x", src, dst)
	cases := []struct {
		p    api.Plan
		want string
		size int
	}{
		{api.Plan{V: 4}, "45000014000000000000baeb0000000000000000", 20},
		{api.Plan{V: 6, Proto: 59}, "6000000000003b00" + fmt.Sprintf("%064d", 0), 40},
		{changed(4, func(p *api.Plan) { p.Id = 0xabcd }), "45b9001eabcd0000401102d9" + addresses + "00350401000a00007777", 30},
		{changed(4, func(p *api.Plan) { p.Id, p.Options, p.Payload = 0xabcd, []byte{7, 3, 1}, []byte{0xee, 0xdd} }), "46b9001aabcd00004011f9d9" + addresses + "07030100eedd", 26},
		{api.Plan{V: 4, Src: src, Dst: dst, Dscp: 63, Ecn: 3, Ttl: 255, Proto: 255, Id: 65535, Offset: 8191, More: true, Options: bytes.Repeat([]byte{1}, 40), Payload: []byte{9}, Trailing: []byte{8, 7}}, "4fff003dffff3fffffff903f" + addresses + fmt.Sprintf("%x", bytes.Repeat([]byte{1}, 40)) + "090807", 61},
		{api.Plan{V: 4, Src: src, Dst: dst, Dscp: 10, Ecn: 2, Ttl: 1, Proto: 1, Id: 1, Offset: 0x1234, Options: []byte{1, 1, 7, 2, 1}}, "472a001c000112340101d10f" + addresses + "0101070201000000", 28},
		{plan(6), "6b900000000a1140" + long + "00350401000a00007777", 50},
		{api.Plan{V: 6, Src: src, Dst: dst, Dscp: 63, Ecn: 3, Ttl: 255, Proto: 255, Payload: []byte{9}, Trailing: []byte{8, 7}}, "6ff000000001ffff" + long + "090807", 41},
		{api.Plan{V: 6, Src: src, Dst: dst, Ttl: 1, Proto: 6, Exts: []api.Ext{{Kind: 0, Body: []byte{1, 4, 0, 0, 0, 0}}, split(0x1234, 1), {Kind: 51, Body: []byte{1, 2, 3, 4, 5, 6, 7, 8, 9, 10}}, {Kind: 60, Body: make([]byte, 14)}}, Payload: []byte{0xee}}, "60000000002d0001" + long + "2c00010400000000" + "330091a101020304" + "3c010102030405060708090a" + "06010000000000000000000000000000" + "ee", 85},
	}
	for _, c := range cases {
		if got, e := build.Build(c.p); hex.EncodeToString(got) != c.want || e != api.OK {
			t.Errorf("Build = %x, %d, not %s", got, e, c.want)
		}
		if got := build.Size(c.p); got != c.size {
			t.Errorf("Size = %d, not %d", got, c.size)
		}
		check(t, c.p)
	}
}

func TestExample(t *testing.T) {
	p := api.Plan{V: 4, Options: []byte{7, 3, 1}, Payload: []byte{0xee, 0xdd}}
	b, e := build.Build(p)
	if build.Size(p) != 26 || len(b) != 26 || b[24] != 0xee || b[25] != 0xdd || e != api.OK {
		t.Errorf("Build = %x, %d", b, e)
	}
}

func TestEveryAddressByte(t *testing.T) {
	for _, v := range []int{4, 6} {
		for i := range 16 {
			for _, x := range []byte{0, 1, 127, 128, 255} {
				p := plan(v)
				p.Src[i] = x
				check(t, p)
				p = plan(v)
				p.Dst[i] = x
				check(t, p)
			}
		}
	}
	// Of version 4 the bytes behind the first four count for nothing.
	p := plan(4)
	want, _ := build.Build(p)
	p.Src, p.Dst = [16]byte{10, 0, 0, 1}, [16]byte{192, 168, 0, 199}
	if got, _ := build.Build(p); !bytes.Equal(got, want) {
		t.Errorf("Build = %x, not %x", got, want)
	}
}

// TestSumThatIsAllOnes holds that a header whose words come to FFFF has 0 as its checksum.
func TestSumThatIsAllOnes(t *testing.T) {
	seen := 0
	for id := range 65536 {
		b, _ := build.Build(api.Plan{V: 4, Id: id, Ttl: 64})
		if b[10] == 0 && b[11] == 0 {
			seen++
		}
		if b[10] == 255 && b[11] == 255 {
			t.Errorf("with the number %d the checksum is FFFF", id)
		}
	}
	if seen != 1 {
		t.Errorf("%d checksums are 0", seen)
	}
}

// All calls, for plans that are drawn

// drawnExts tells extension headers, or what is nearly some.
func drawnExts(draw *rand.Rand) []api.Ext {
	var l []api.Ext
	for i := range draw.Intn(5) + draw.Intn(2)*draw.Intn(6) {
		switch draw.Intn(8) {
		case 0:
			if i == 0 {
				l = append(l, ext(0, 6))
			}
		case 1, 2:
			if !slices.ContainsFunc(l, func(x api.Ext) bool { return x.Kind == 44 }) {
				l = append(l, split([]int{0, 0, 0, 1, 8190, 8191}[draw.Intn(6)], draw.Intn(8)))
			}
		case 3:
			l = append(l, ext(51, 6+4*draw.Intn(9)))
		default:
			l = append(l, ext([]int{43, 60, 135, 139, 140}[draw.Intn(5)], 6+8*draw.Intn(4)))
		}
	}
	if len(l) > 0 && draw.Intn(12) == 0 {
		l[draw.Intn(len(l))] = []api.Ext{ext(0, 6), split(0, 1), ext(60, 7), ext(59, 6)}[draw.Intn(4)]
	}
	return l
}

// drawnPayload tells a protocol and a transport header of it, or what is nearly one.
func drawnPayload(draw *rand.Rand) (int, []byte) {
	proto := []int{6, 17, 132, 1, 59, draw.Intn(256)}[draw.Intn(6)]
	b, _ := ports.Write(proto, draw.Intn(65536), draw.Intn(65536), make([]byte, draw.Intn(20)))
	switch {
	case len(b) > 12 && draw.Intn(4) == 0:
		b[[]int{4, 5, 12}[draw.Intn(3)]] = byte(draw.Intn(256))
	case draw.Intn(4) == 0:
		b = b[:draw.Intn(len(b)+1)]
	}
	return proto, b
}

// drawn tells a plan, most often one that is right.
func drawn(draw *rand.Rand) api.Plan {
	p := api.Plan{V: 4 + 2*draw.Intn(2), Trailing: make([]byte, draw.Intn(2)*draw.Intn(9))}
	draw.Read(p.Src[:])
	draw.Read(p.Dst[:])
	draw.Read(p.Trailing)
	for _, x := range fields(&p)[:3] {
		*x.n = draw.Intn(x.high + 1)
	}
	p.Proto, p.Payload = drawnPayload(draw)
	if p.V == 4 || draw.Intn(30) == 0 {
		p.Id, p.Offset, p.More = draw.Intn(65536), []int{0, 0, 0, 1, 8190, 8191, draw.Intn(8192)}[draw.Intn(7)], draw.Intn(2) == 0
		p.Options = [][]byte{nil, nil, nil, {1}, {7, 3, 5}, {7, 6, 1, 2, 3, 4}, {7}, {1, 1, 7, 9, 0}, make([]byte, draw.Intn(43))}[draw.Intn(9)]
	}
	if p.V == 6 || draw.Intn(30) == 0 {
		p.Exts = drawnExts(draw)
	}
	if draw.Intn(40) == 0 {
		l := fields(&p)
		x := l[draw.Intn(len(l))]
		*x.n = []int{-1, x.high + 1}[draw.Intn(2)]
	}
	return p
}

func TestDrawnPlans(t *testing.T) {
	draw := rand.New(rand.NewSource(43))
	seen := map[api.Errno]int{}
	for range 60000 {
		p := drawn(draw)
		seen[wrong(p)]++
		check(t, p)
		if t.Failed() {
			t.FailNow()
		}
	}
	for _, e := range []api.Errno{api.OK, api.ErrPoint, api.ErrRange, api.ErrKind, api.ErrLong, api.ErrMany, api.ErrForm, api.ErrOrder, api.ErrTwice} {
		if seen[e] == 0 {
			t.Errorf("no plan with the error %d was drawn", e)
		}
	}
}

// P15.4

// fate tells what fragment a plan makes, at which offset, the number of what is behind its headers, how many bytes these have, and how many bytes its fragment has.
func fate(p api.Plan) (frag, offset, proto, at, piece int) {
	more := p.More
	offset, proto, at, piece = p.Offset, p.Proto, ahead(p), len(p.Payload)
	end := 40
	for i, x := range p.Exts {
		end += 2 + len(x.Body)
		if x.Kind != 44 {
			continue
		}
		offset, more, piece = int(x.Body[0])<<5|int(x.Body[1]>>3), x.Body[1]&1 == 1, ahead(p)-end+len(p.Payload)
		// Behind the header of a later fragment there are no headers.
		if offset > 0 && i+1 < len(p.Exts) {
			proto, at = p.Exts[i+1].Kind, end
		} else if offset > 0 {
			at = end
		}
	}
	switch {
	case offset > 0:
		frag = api.Later
	case more:
		frag = api.First
	}
	return frag, offset, proto, at, piece
}

// expected tells the record that a plan that is right says, or the defects that its packet has.
func expected(p api.Plan) (api.Head, []api.Defect) {
	frag, offset, proto, at, piece := fate(p)
	h := api.Head{V: p.V, Src: p.Src, Dst: p.Dst, Proto: proto, Size: ahead(p) + len(p.Payload), At: at, Frag: frag}
	var defects []api.Defect
	if p.V == 4 {
		h.Src, h.Dst = [16]byte{p.Src[0], p.Src[1], p.Src[2], p.Src[3]}, [16]byte{p.Dst[0], p.Dst[1], p.Dst[2], p.Dst[3]}
		if _, ok := fourhead.Options(exact(p)); !ok {
			defects = append(defects, api.DefOption)
		}
	}
	if 8*offset+piece > 65535 {
		defects = append(defects, api.DefEnd)
	}
	if len(defects) > 0 {
		return api.Head{}, defects
	}
	if frag == api.Later || ports.Least(proto) == 0 {
		return h, nil
	}
	h.Ports = true
	var d api.Defect
	h.SrcPort, h.DstPort, d = ports.Read(proto, p.Payload, frag == api.First)
	if d != api.Sound {
		return api.Head{}, []api.Defect{d}
	}
	return h, nil
}

// parsed holds that the packet of a plan that is right is parsed as it was planned, and tells its defects.
func parsed(t *testing.T, p api.Plan) []api.Defect {
	t.Helper()
	b, e := build.Build(p)
	h, defects := expected(p)
	all := packet.All(b)
	if e != api.OK || !slices.Equal(all, defects) {
		t.Errorf("of %+v comes %x, %d, with the defects %d, not %d", p, start(b), e, all, defects)
	}
	for _, d := range all {
		if !slices.Contains([]api.Defect{api.DefOption, api.DefEnd, api.DefPorts, api.DefData}, d) {
			t.Errorf("of %+v comes %x with the defect %d", p, start(b), d)
		}
	}
	if got, _ := packet.Parse(b); got != h {
		t.Errorf("of %+v comes %x with the record %v, not %v", p, start(b), got, h)
	}
	if dscp, ecn, ok := packet.Point(b); ok && (dscp != p.Dscp || ecn != p.Ecn) {
		t.Errorf("of %+v comes %x with %d and %d", p, start(b), dscp, ecn)
	}
	return all
}

func TestParsedAsPlanned(t *testing.T) {
	draw := rand.New(rand.NewSource(47))
	defects, kinds := map[api.Defect]int{}, map[string]int{}
	for range 60000 {
		p := drawn(draw)
		if build.Check(p) != api.OK {
			continue
		}
		for _, d := range parsed(t, p) {
			defects[d]++
		}
		h, _ := expected(p)
		kinds[fmt.Sprint(h.V, h.Frag, h.Ports)]++
		if t.Failed() {
			t.FailNow()
		}
	}
	for _, d := range []api.Defect{api.DefOption, api.DefEnd, api.DefPorts, api.DefData} {
		if defects[d] == 0 {
			t.Errorf("no packet with defect %d was drawn", d)
		}
	}
	for _, kind := range []string{"4 0 true", "4 1 true", "4 2 false", "6 0 true", "6 1 true", "6 2 false", "4 0 false", "6 0 false"} {
		if kinds[kind] == 0 {
			t.Errorf("no packet of the kind %s was drawn", kind)
		}
	}
}

func TestParsedAtTheEnd(t *testing.T) {
	for _, n := range []int{0, 1, 6, 7, 8, 9} {
		p := plan(4)
		p.Offset, p.Payload = 8191, make([]byte, n)
		q := plan(6)
		q.Exts, q.Payload = []api.Ext{split(8191, 0)}, make([]byte, n)
		for _, x := range []api.Plan{p, q} {
			if got := parsed(t, x); slices.Equal(got, []api.Defect{api.DefEnd}) != (n > 7) {
				t.Errorf("of version %d with %d bytes at the end the defects are %d", x.V, n, got)
			}
		}
	}
}

func TestParsedHeaders(t *testing.T) {
	for _, v := range []int{4, 6} {
		b, _ := build.Build(plan(v))
		want := api.Head{V: v, Src: src, Dst: dst, Proto: 17, Size: 50, At: 40, Ports: true, SrcPort: 53, DstPort: 1025}
		if v == 4 {
			want.Src, want.Dst, want.Size, want.At = [16]byte{10, 0, 0, 1}, [16]byte{192, 168, 0, 199}, 30, 20
		}
		if got, d := packet.Parse(b); got != want || d != api.Sound {
			t.Errorf("Parse(%x) = %v, %d", b, got, d)
		}
	}
	p := plan(6)
	p.Exts = []api.Ext{ext(0, 14), split(0, 1), ext(51, 10)}
	b, _ := build.Build(p)
	l := extwalk.List(0, b[40:])
	if len(l) != 3 || l[0].Kind != 0 || l[1].Kind != 44 || l[2].Kind != 51 || !bytes.Equal(l[0].Body, p.Exts[0].Body) || !bytes.Equal(l[2].Body, p.Exts[2].Body) {
		t.Errorf("the headers of %x are %v", b, l)
	}
}

// P1 of the general rules: every call ends, whatever it is given.
func TestAnything(t *testing.T) {
	odd := []int{math.MinInt, -1, 0, 1, 4, 6, 44, 64, 255, 65535, math.MaxInt}
	draw := rand.New(rand.NewSource(53))
	for range 30000 {
		p := api.Plan{Exts: make([]api.Ext, draw.Intn(11)), Options: make([]byte, draw.Intn(50)), More: draw.Intn(2) == 0}
		if draw.Intn(3) == 0 {
			p.Exts, p.Options = nil, nil
		}
		p.V = []int{4, 6, odd[draw.Intn(len(odd))]}[draw.Intn(3)]
		for _, x := range fields(&p) {
			*x.n = []int{0, odd[draw.Intn(len(odd))]}[draw.Intn(2)]
		}
		for i := range p.Exts {
			p.Exts[i] = api.Ext{Kind: odd[draw.Intn(len(odd))], Body: make([]byte, draw.Intn(9))}
		}
		check(t, p)
		if t.Failed() {
			t.FailNow()
		}
	}
}

// P3 of the general rules

// roomy tells bytes in a slice that has room for more, with something in that.
func roomy(b []byte) []byte {
	return append(bytes.Clone(b), bytes.Repeat([]byte{0x5a}, 64)...)[:len(b)]
}

// roomyPlan tells a plan of a version whose slices all have room for more.
func roomyPlan(v int) api.Plan {
	p := plan(v)
	p.Payload, p.Trailing = roomy(p.Payload), roomy([]byte{1, 2, 3})
	if v == 4 {
		p.Options = roomy([]byte{7, 3, 1})
		return p
	}
	p.Exts = append([]api.Ext{ext(0, 6), ext(60, 14)}, hops(9)...)[:2]
	for i := range p.Exts {
		p.Exts[i].Body = roomy(p.Exts[i].Body)
	}
	return p
}

// slicesOf tells all bytes that a plan has room for.
func slicesOf(p api.Plan) [][]byte {
	l := [][]byte{p.Payload, p.Trailing, p.Options}
	for _, x := range p.Exts[:cap(p.Exts)] {
		l = append(l, x.Body)
	}
	for i := range l {
		l[i] = l[i][:cap(l[i])]
	}
	return l
}

// copied tells a copy of bytes one by one.
func copied(l [][]byte) [][]byte {
	out := [][]byte{}
	for _, b := range l {
		out = append(out, bytes.Clone(b))
	}
	return out
}

func TestArgumentsStay(t *testing.T) {
	for _, v := range []int{4, 6} {
		p := roomyPlan(v)
		kept := copied(slicesOf(p))
		check(t, p)
		if !slices.EqualFunc(kept, slicesOf(p), bytes.Equal) {
			t.Errorf("the bytes of the plan of version %d became %x", v, slicesOf(p))
		}
	}
}

func TestResultsAreNewMemory(t *testing.T) {
	for _, v := range []int{4, 6} {
		for _, p := range []api.Plan{roomyPlan(v), {V: v, Proto: 59}, {V: v, Proto: 59, Payload: roomy([]byte{1})}} {
			kept := copied(slicesOf(p))
			b, _ := build.Build(p)
			want := bytes.Clone(b)
			b = b[:cap(b)]
			for i := range b {
				b[i] ^= 0xff
			}
			if again, _ := build.Build(p); !bytes.Equal(again, want) || !slices.EqualFunc(kept, slicesOf(p), bytes.Equal) {
				t.Errorf("of version %d Build = %x, not %x", v, again, want)
			}
		}
	}
}

func TestNilIsEmpty(t *testing.T) {
	for _, v := range []int{4, 6} {
		p := api.Plan{V: v, Proto: 59}
		q := api.Plan{V: v, Proto: 59, Options: []byte{}, Exts: []api.Ext{}, Payload: []byte{}, Trailing: []byte{}}
		a, e := build.Build(p)
		b, f := build.Build(q)
		if !bytes.Equal(a, b) || e != api.OK || f != api.OK || build.Size(p) != build.Size(q) {
			t.Errorf("of version %d Build = %x, %d, and %x, %d", v, a, e, b, f)
		}
	}
}

// P5 of the general rules: a call answers the same whatever was called ahead of it.
func TestNothingIsKept(t *testing.T) {
	for range 3 {
		draw := rand.New(rand.NewSource(59))
		for range 1000 {
			check(t, drawn(draw))
		}
		check(t, api.Plan{V: 5})
	}
}
