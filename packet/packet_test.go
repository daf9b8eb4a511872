package packet_test

import (
	"bytes"
	"fmt"
	"math"
	"math/rand"
	"reflect"
	"slices"
	"strings"
	"testing"

	"weighbridge/api"
	"weighbridge/colons"
	"weighbridge/dotted"
	"weighbridge/extwalk"
	"weighbridge/fourhead"
	"weighbridge/packet"
	"weighbridge/point"
	"weighbridge/ports"
	"weighbridge/sixhead"
)

// Bits of the word with the offset of a header of version 4.
const (
	more     = 0x2000
	dont     = 0x4000
	reserved = 0x8000
)

var (
	// srcs and dsts are the addresses of the packets that four and six make, by their versions, as they stand in records.
	srcs = map[int][16]byte{4: {10, 0, 0, 1}, 6: {0x20, 0x01, 0x0d, 0xb8, 4, 5, 6, 7, 8, 9, 10, 11, 12, 13, 14, 15}}
	dsts = map[int][16]byte{4: {192, 168, 0, 199}, 6: {0xfe, 0x80, 8: 1, 15: 2}}
)

// four tells a packet of version 4 with code point 46 and 1 beside it, sealed, whose total length is that of all its bytes.
func four(proto, offset int, options, payload []byte) []byte {
	src, dst := srcs[4], dsts[4]
	n := 20 + len(options) + len(payload)
	b := []byte{byte(0x45 + len(options)/4), 0xb9, byte(n >> 8), byte(n), 0xab, 0xcd, byte(offset >> 8), byte(offset), 64, byte(proto), 0, 0}
	return sealed(slices.Concat(b, src[:4], dst[:4], options, payload))
}

// sealed tells a packet of version 4 with the right checksum in its header.
func sealed(b []byte) []byte {
	out, e := fourhead.Seal(b)
	if e != api.OK {
		panic("no header to seal")
	}
	return out
}

// six tells a packet of version 6 with code point 46 and 1 beside it, whose payload is all that is behind its header.
func six(next int, rest ...byte) []byte {
	src, dst := srcs[6], dsts[6]
	return slices.Concat([]byte{0x6b, 0x91, 0x23, 0x45, byte(len(rest) >> 8), byte(len(rest)), byte(next), 64}, src[:], dst[:], rest)
}

// ext tells an extension header of eight bytes that is no fragment's.
func ext(next int) []byte {
	return []byte{byte(next), 0, 9, 9, 9, 9, 9, 9}
}

// split tells a fragment header.
func split(next, offset, more int) []byte {
	return []byte{byte(next), 0, byte(offset >> 5), byte(offset<<3 | more), 1, 2, 3, 4}
}

// carried tells the bytes of a transport header from port 53 to port 1025, with so many bytes behind it.
func carried(proto, n int) []byte {
	b, e := ports.Write(proto, 53, 1025, bytes.Repeat([]byte{0x77}, n))
	if e != api.OK {
		panic("no such header")
	}
	return b
}

// with tells bytes with one at a place changed.
func with(b []byte, at int, x byte) []byte {
	out := bytes.Clone(b)
	out[at] = x
	return out
}

// and tells bytes with so many behind them.
func and(b []byte, n int) []byte {
	return append(bytes.Clone(b), bytes.Repeat([]byte{0x11}, n)...)
}

// frag tells what fragment a packet without a defect in its headers is.
func frag(b []byte) int {
	if b[0]>>4 == 6 {
		w, _ := extwalk.Go(int(b[6]), b[40:40+256*int(b[4])+int(b[5])])
		return w.Frag
	}
	switch offset := 256*int(b[6]) + int(b[7]); {
	case offset&0x1fff > 0:
		return api.Later
	case offset&more > 0:
		return api.First
	}
	return api.Whole
}

// headed tells what the headers of a packet without a defect in them say, and its payload.
func headed(b []byte) (api.Head, []byte) {
	h := api.Head{V: int(b[0] >> 4), Frag: frag(b)}
	if h.V == 4 {
		copy(h.Src[:4], b[12:])
		copy(h.Dst[:4], b[16:])
		h.Proto, h.Size, h.At = int(b[9]), 256*int(b[2])+int(b[3]), 4*int(b[0]&15)
	} else {
		copy(h.Src[:], b[8:])
		copy(h.Dst[:], b[24:])
		h.Size = 40 + 256*int(b[4]) + int(b[5])
		w, _ := extwalk.Go(int(b[6]), b[40:h.Size])
		h.Proto, h.At = w.Proto, 40+w.At
	}
	return h, b[h.At:h.Size]
}

// exact tells a packet's record, or all its defects.
func exact(b []byte) (api.Head, []api.Defect) {
	var defects []api.Defect
	switch {
	case len(b) == 0:
		return api.Head{}, []api.Defect{api.DefEmpty}
	case b[0]>>4 == 4:
		defects = fourhead.All(b)
	case b[0]>>4 == 6:
		defects = sixhead.All(b)
	default:
		return api.Head{}, []api.Defect{api.DefVersion}
	}
	if len(defects) > 0 {
		return api.Head{}, defects
	}
	h, payload := headed(b)
	if h.Frag != api.Later && slices.Contains([]int{6, 17, 132}, h.Proto) {
		src, dst, d := ports.Read(h.Proto, payload, h.Frag == api.First)
		if d != api.Sound {
			return api.Head{}, []api.Defect{d}
		}
		h.Ports, h.SrcPort, h.DstPort = true, src, dst
	}
	return h, nil
}

// class tells the byte with the code point of a packet that has one.
func class(b []byte) byte {
	if b[0]>>4 == 4 {
		return b[1]
	}
	return b[0]<<4 | b[1]>>4
}

// told tells the line of a packet.
func told(b []byte) string {
	h, defects := exact(b)
	if len(defects) > 0 {
		return "bad " + strings.Fields(names)[defects[0]]
	}
	src, dst := colons.Print(h.Src), colons.Print(h.Dst)
	if h.V == 4 {
		src, dst = dotted.Print([4]byte(h.Src[:4])), dotted.Print([4]byte(h.Dst[:4]))
	}
	from, to := "-", "-"
	if h.Ports {
		from, to = fmt.Sprint(h.SrcPort), fmt.Sprint(h.DstPort)
	}
	return fmt.Sprintf("%d %s %s %d %s %s %s %d %d %s", h.V, src, dst, h.Proto, from, to, point.Name(int(class(b)/4)), class(b)%4, h.Size, []string{"whole", "first", "later"}[h.Frag])
}

// names are the names of all defects, from Sound on.
const names = "sound empty version short ihl head total cut option sum ext hop many twice end ports data"

// check holds all calls against what is exact for a packet.
func check(t *testing.T, b []byte) {
	t.Helper()
	h, defects := exact(b)
	if got := packet.All(b); !slices.Equal(got, defects) {
		t.Errorf("All(%x) = %d, not %d", b, got, defects)
	}
	least, key, dscp, ecn := api.Sound, api.Key{}, 0, 0
	if len(defects) > 0 {
		least = defects[0]
	} else {
		dscp, ecn = int(class(b)/4), int(class(b)%4)
		key = api.Key{V: h.V, Src: h.Src, Dst: h.Dst, Proto: h.Proto, Dscp: dscp, Ports: h.Ports, SrcPort: h.SrcPort, DstPort: h.DstPort}
	}
	if got, d := packet.Parse(b); got != h || d != least {
		t.Errorf("Parse(%x) = %v, %d, not %v, %d", b, got, d, h, least)
	}
	if d, e, ok := packet.Point(b); d != dscp || e != ecn || ok != (least == api.Sound) {
		t.Errorf("Point(%x) = %d, %d, %v, not %d, %d", b, d, e, ok, dscp, ecn)
	}
	if got, d := packet.Key(b); got != key || d != least {
		t.Errorf("Key(%x) = %v, %d, not %v, %d", b, got, d, key, least)
	}
	if got := packet.Tell(b); got != told(b) {
		t.Errorf("Tell(%x) = %q, not %q", b, got, told(b))
	}
}

// broken are packets with defects, and all the defects of each.
func broken() []struct {
	b    []byte
	want []api.Defect
} {
	type row = struct {
		b    []byte
		want []api.Defect
	}
	udp, tcp, sctp := carried(17, 2), carried(6, 2), carried(132, 2)
	long := with(udp, 5, 11)
	l := []row{
		{nil, []api.Defect{api.DefEmpty}}, {[]byte{}, []api.Defect{api.DefEmpty}}, {[]byte{1}, []api.Defect{api.DefVersion}}, {[]byte{0x54}, []api.Defect{api.DefVersion}}, {make([]byte, 99), []api.Defect{api.DefVersion}},
		{[]byte{0x45}, []api.Defect{api.DefShort}}, {[]byte{0x60}, []api.Defect{api.DefShort}}, {six(59)[:39], []api.Defect{api.DefShort}}, {four(0, 0, nil, nil)[:19], []api.Defect{api.DefShort}},
		{with(four(0, 0, nil, nil), 0, 0x44), []api.Defect{api.DefIhl}}, {with(four(0, 0, nil, nil), 0, 0x46), []api.Defect{api.DefHead}},
		{sealed(with(four(0, 0, nil, nil), 3, 19)), []api.Defect{api.DefTotal}}, {sealed(with(four(0, 0, nil, nil), 3, 21)), []api.Defect{api.DefCut}}, {four(0, 0, []byte{7, 5, 0, 0}, nil), []api.Defect{api.DefOption}},
		{with(four(0, 0, nil, nil), 11, 0), []api.Defect{api.DefSum}}, {four(0, 8191, nil, make([]byte, 8)), []api.Defect{api.DefEnd}},
		{with(four(0, 8191, []byte{7, 5, 0, 0}, make([]byte, 8)), 11, 0)[:31], []api.Defect{api.DefCut, api.DefOption, api.DefSum, api.DefEnd}},
		{six(60), []api.Defect{api.DefExt}}, {six(60, append(ext(0), ext(17)...)...), []api.Defect{api.DefHop}}, {six(60, bytes.Repeat(ext(60), 9)...), []api.Defect{api.DefMany}},
		{six(44, append(split(44, 0, 0), split(59, 0, 0)...)...), []api.Defect{api.DefTwice}}, {six(44, append(split(59, 8191, 0), ext(0)...)...), []api.Defect{api.DefEnd}}, {six(60, ext(59)...)[:47], []api.Defect{api.DefCut}},
		{six(44, slices.Concat(split(44, 0, 0), split(0, 0, 0), ext(60))...), []api.Defect{api.DefExt, api.DefHop, api.DefTwice}},
		// Without the headers being right, nothing is told of what they carry.
		{with(four(17, 0, nil, udp[:7]), 11, 0), []api.Defect{api.DefSum}}, {four(6, 0, []byte{7, 5, 0, 0}, nil), []api.Defect{api.DefOption}}, {six(60, slices.Concat(ext(0), ext(17), udp[:3])...), []api.Defect{api.DefHop}},
	}
	for proto, payload := range map[int][]byte{17: udp, 6: tcp, 132: sctp} {
		for _, n := range []int{0, 1, 4, ports.Least(proto) - 1} {
			for _, first := range []int{0, 1} {
				cut, want := payload[:n], []api.Defect{api.DefPorts}
				l = append(l, row{four(proto, first*more, nil, cut), want}, row{four(proto, first*more, []byte{1, 1, 1, 0}, cut), want}, row{six(proto, cut...), want},
					row{six(44, append(split(proto, 0, first), cut...)...), want}, row{six(0, append(ext(proto), cut...)...), want},
					// Bytes behind the end are no payload.
					row{append(four(proto, first*more, nil, cut), payload[n:]...), want}, row{append(six(proto, cut...), payload[n:]...), want}, row{append(six(44, append(split(proto, 0, first), cut...)...), payload[n:]...), want})
			}
		}
	}
	for _, c := range []struct {
		proto   int
		payload []byte
	}{{17, long}, {17, with(udp, 4, 1)}, {17, with(udp, 5, 7)}, {17, with(udp, 5, 0)}, {17, udp[:9]}, {6, with(tcp, 12, 0x4f)}, {6, with(tcp, 12, 0)}, {6, with(tcp, 12, 0x60)}, {6, with(tcp, 12, 0xf0)}} {
		want := []api.Defect{api.DefData}
		l = append(l, row{four(c.proto, 0, nil, c.payload), want}, row{four(c.proto, dont|reserved, nil, c.payload), want}, row{six(c.proto, c.payload...), want}, row{six(60, append(ext(c.proto), c.payload...)...), want},
			// A fragment header of a packet that is not split makes it no first fragment.
			row{six(44, append(split(c.proto, 0, 0), c.payload...)...), want}, row{six(44, append(split(c.proto, 0, 6), c.payload...)...), want},
			row{and(four(c.proto, 0, nil, c.payload), 300), want}, row{and(six(c.proto, c.payload...), 300), want})
	}
	for _, b := range [][]byte{with(udp, 5, 7), with(udp, 5, 0)} {
		l = append(l, row{four(17, more, nil, b), []api.Defect{api.DefData}}, row{six(44, append(split(17, 0, 1), b...)...), []api.Defect{api.DefData}})
	}
	for _, b := range [][]byte{with(tcp, 12, 0x40), with(tcp, 12, 0x60)} {
		l = append(l, row{four(6, more, nil, b), []api.Defect{api.DefData}}, row{six(44, append(split(6, 0, 1), b...)...), []api.Defect{api.DefData}})
	}
	return l
}

// sound are packets without a defect, and their records but for the addresses.
func sound() []struct {
	b    []byte
	want api.Head
} {
	type row = struct {
		b    []byte
		want api.Head
	}
	udp, tcp, sctp, long := carried(17, 2), carried(6, 3), carried(132, 5), with(carried(17, 2), 4, 9)
	return []row{
		{four(17, 0, nil, udp), api.Head{V: 4, Proto: 17, Size: 30, At: 20, Ports: true, SrcPort: 53, DstPort: 1025}},
		{and(four(17, 0, nil, udp), 1), api.Head{V: 4, Proto: 17, Size: 30, At: 20, Ports: true, SrcPort: 53, DstPort: 1025}},
		{four(6, dont, []byte{1, 7, 2, 0}, tcp), api.Head{V: 4, Proto: 6, Size: 47, At: 24, Ports: true, SrcPort: 53, DstPort: 1025}},
		{four(132, reserved|dont, make([]byte, 40), sctp), api.Head{V: 4, Proto: 132, Size: 77, At: 60, Ports: true, SrcPort: 53, DstPort: 1025}},
		{four(1, 0, nil, []byte{8, 0, 0, 0}), api.Head{V: 4, Proto: 1, Size: 24, At: 20}}, {four(255, 0, nil, nil), api.Head{V: 4, Proto: 255, Size: 20, At: 20}}, {four(0, 0, nil, udp), api.Head{V: 4, Proto: 0, Size: 30, At: 20}},
		// The kinds of extension headers of version 6 are protocols as others in version 4.
		{four(44, 0, nil, split(17, 0, 1)), api.Head{V: 4, Proto: 44, Size: 28, At: 20}}, {four(60, 0, nil, nil), api.Head{V: 4, Proto: 60, Size: 20, At: 20}},
		{four(17, more, nil, udp), api.Head{V: 4, Proto: 17, Size: 30, At: 20, Frag: api.First, Ports: true, SrcPort: 53, DstPort: 1025}},
		{four(17, more|dont|reserved, nil, long), api.Head{V: 4, Proto: 17, Size: 30, At: 20, Frag: api.First, Ports: true, SrcPort: 53, DstPort: 1025}},
		{four(6, more, nil, tcp), api.Head{V: 4, Proto: 6, Size: 43, At: 20, Frag: api.First, Ports: true, SrcPort: 53, DstPort: 1025}}, {four(1, more, nil, udp), api.Head{V: 4, Proto: 1, Size: 30, At: 20, Frag: api.First}},
		{four(17, 1, nil, udp), api.Head{V: 4, Proto: 17, Size: 30, At: 20, Frag: api.Later}}, {four(17, 4096|more, nil, long), api.Head{V: 4, Proto: 17, Size: 30, At: 20, Frag: api.Later}},
		{four(6, 8191, nil, nil), api.Head{V: 4, Proto: 6, Size: 20, At: 20, Frag: api.Later}}, {four(132, 1, nil, []byte{1}), api.Head{V: 4, Proto: 132, Size: 21, At: 20, Frag: api.Later}},
		{four(17, 0, nil, carried(17, 65507)), api.Head{V: 4, Proto: 17, Size: 65535, At: 20, Ports: true, SrcPort: 53, DstPort: 1025}},

		{six(17, udp...), api.Head{V: 6, Proto: 17, Size: 50, At: 40, Ports: true, SrcPort: 53, DstPort: 1025}}, {and(six(17, udp...), 5), api.Head{V: 6, Proto: 17, Size: 50, At: 40, Ports: true, SrcPort: 53, DstPort: 1025}},
		{six(6, tcp...), api.Head{V: 6, Proto: 6, Size: 63, At: 40, Ports: true, SrcPort: 53, DstPort: 1025}}, {six(132, sctp...), api.Head{V: 6, Proto: 132, Size: 57, At: 40, Ports: true, SrcPort: 53, DstPort: 1025}},
		{six(59), api.Head{V: 6, Proto: 59, Size: 40, At: 40}}, {six(58, 1, 2, 3), api.Head{V: 6, Proto: 58, Size: 43, At: 40}}, {six(4, udp...), api.Head{V: 6, Proto: 4, Size: 50, At: 40}},
		{six(0, slices.Concat(ext(60), ext(17), udp)...), api.Head{V: 6, Proto: 17, Size: 66, At: 56, Ports: true, SrcPort: 53, DstPort: 1025}}, {six(0, ext(59)...), api.Head{V: 6, Proto: 59, Size: 48, At: 48}},
		{six(60, append(bytes.Repeat(ext(60), 7), append(ext(6), tcp...)...)...), api.Head{V: 6, Proto: 6, Size: 127, At: 104, Ports: true, SrcPort: 53, DstPort: 1025}},
		{six(44, append(split(17, 0, 0), udp...)...), api.Head{V: 6, Proto: 17, Size: 58, At: 48, Ports: true, SrcPort: 53, DstPort: 1025}},
		{six(44, append(split(17, 0, 1), long...)...), api.Head{V: 6, Proto: 17, Size: 58, At: 48, Frag: api.First, Ports: true, SrcPort: 53, DstPort: 1025}},
		{six(44, slices.Concat(split(60, 0, 1), ext(6), tcp)...), api.Head{V: 6, Proto: 6, Size: 79, At: 56, Frag: api.First, Ports: true, SrcPort: 53, DstPort: 1025}}, {six(44, split(59, 0, 1)...), api.Head{V: 6, Proto: 59, Size: 48, At: 48, Frag: api.First}},
		{six(44, append(split(17, 1, 0), long...)...), api.Head{V: 6, Proto: 17, Size: 58, At: 48, Frag: api.Later}}, {six(44, split(6, 5, 1)...), api.Head{V: 6, Proto: 6, Size: 48, At: 48, Frag: api.Later}},
		{six(0, slices.Concat(ext(44), split(60, 8191, 0), []byte{1})...), api.Head{V: 6, Proto: 60, Size: 57, At: 56, Frag: api.Later}},
		{six(17, carried(17, 65527)...), api.Head{V: 6, Proto: 17, Size: 65575, At: 40, Ports: true, SrcPort: 53, DstPort: 1025}},
	}
}

// P14.1

func TestAll(t *testing.T) {
	for _, c := range broken() {
		if got := packet.All(c.b); !slices.Equal(got, c.want) {
			t.Errorf("All(%x) = %d, not %d", c.b, got, c.want)
		}
	}
	for _, c := range sound() {
		if got := packet.All(c.b); len(got) != 0 {
			t.Errorf("All(%x) = %d", c.b[:min(len(c.b), 99)], got)
		}
	}
}

func TestAllOfEveryFirstByteAndLength(t *testing.T) {
	for first := range 256 {
		for n := range 90 {
			b := append([]byte{byte(first)}, bytes.Repeat([]byte{0, 17, 9}, 30)...)[:n]
			var want []api.Defect
			switch {
			case n == 0:
				want = []api.Defect{api.DefEmpty}
			case first/16 == 4:
				want = fourhead.All(b)
			case first/16 == 6:
				want = sixhead.All(b)
			default:
				want = []api.Defect{api.DefVersion}
			}
			if got := packet.All(b); !slices.Equal(got, want) {
				t.Errorf("All(%x) = %d, not %d", b, got, want)
			}
		}
	}
}

// TestAllOfEveryProtocol holds that no other protocols than those with ports are looked into, and these only where they begin.
func TestAllOfEveryProtocol(t *testing.T) {
	for proto := range 256 {
		has := slices.Contains([]int{6, 17, 132}, proto)
		for offset := range 3 {
			for flags := range 8 {
				var want []api.Defect
				if has && offset == 0 {
					want = []api.Defect{api.DefPorts}
				}
				if got := packet.All(four(proto, flags<<13|offset, nil, []byte{1, 2, 3})); !slices.Equal(got, want) {
					t.Errorf("All of version 4, protocol %d, offset %d = %d, not %d", proto, offset, got, want)
				}
				if got := packet.All(six(44, append(split(proto, offset, flags), 1, 2, 3)...)); !extwalk.Is(proto) && !slices.Equal(got, want) {
					t.Errorf("All of version 6, protocol %d, offset %d = %d, not %d", proto, offset, got, want)
				}
			}
		}
	}
}

// P14.2

func TestParse(t *testing.T) {
	for _, c := range sound() {
		c.want.Src, c.want.Dst = srcs[c.want.V], dsts[c.want.V]
		if got, d := packet.Parse(c.b); got != c.want || d != api.Sound {
			t.Errorf("Parse(%x) = %v, %d, not %v", c.b[:min(len(c.b), 99)], got, d, c.want)
		}
	}
	for _, c := range broken() {
		if got, d := packet.Parse(c.b); got != (api.Head{}) || d != c.want[0] {
			t.Errorf("Parse(%x) = %v, %d, not %d", c.b, got, d, c.want[0])
		}
	}
}

func TestParseOfEveryAddressByte(t *testing.T) {
	for i := range 16 {
		for _, x := range []byte{0, 1, 127, 128, 255} {
			src, dst := with(six(17, carried(17, 1)...), 8+i, x), with(six(59), 24+i, x)
			s, _ := packet.Parse(src)
			d, _ := packet.Parse(dst)
			if !bytes.Equal(s.Src[:], src[8:24]) || s.Dst != dsts[6] || d.Src != srcs[6] || !bytes.Equal(d.Dst[:], dst[24:40]) {
				t.Errorf("with %d at %d: %v, %v", x, i, s, d)
			}
			if i >= 4 {
				continue
			}
			src, dst = sealed(with(four(17, 0, nil, carried(17, 1)), 12+i, x)), sealed(with(four(0, 0, nil, nil), 16+i, x))
			s, _ = packet.Parse(src)
			d, _ = packet.Parse(dst)
			if s.Src != [16]byte{src[12], src[13], src[14], src[15]} || s.Dst != dsts[4] || d.Src != srcs[4] || d.Dst != [16]byte{dst[16], dst[17], dst[18], dst[19]} {
				t.Errorf("with %d at %d: %v, %v", x, i, s, d)
			}
		}
	}
}

// TestParseIgnoresPointAndSum holds that records have neither the code point nor the checksum, and nothing of what else is in a header.
func TestParseIgnoresPointAndSum(t *testing.T) {
	old, new := four(17, 0, nil, carried(17, 2)), six(17, carried(17, 2)...)
	h4, _ := packet.Parse(old)
	h6, _ := packet.Parse(new)
	for x := range 256 {
		for _, at := range []int{1, 4, 5, 8, 27} {
			if got, d := packet.Parse(sealed(with(old, at, byte(x)))); got != h4 || d != api.Sound {
				t.Errorf("with %d at %d: %v, %d", x, at, got, d)
			}
		}
		for _, at := range []int{1, 2, 3, 7, 47} {
			if got, d := packet.Parse(with(new, at, byte(x))); got != h6 || d != api.Sound {
				t.Errorf("with %d at %d: %v, %d", x, at, got, d)
			}
		}
	}
}

func TestParseOfEveryPort(t *testing.T) {
	for proto := range map[int]bool{6: true, 17: true, 132: true} {
		for port := 0; port < 65536; port += 7 {
			for _, pair := range [][2]int{{port, 3}, {3, port}} {
				payload, _ := ports.Write(proto, pair[0], pair[1], nil)
				for _, b := range [][]byte{four(proto, 0, nil, payload), six(proto, payload...)} {
					if h, d := packet.Parse(b); !h.Ports || h.SrcPort != pair[0] || h.DstPort != pair[1] || d != api.Sound {
						t.Fatalf("Parse(%x) = %v, %d", b, h, d)
					}
				}
			}
		}
	}
}

// P14.3

func TestPoint(t *testing.T) {
	for x := range 256 {
		new := with(with(six(59), 0, byte(0x60|x>>4)), 1, byte(x<<4))
		for _, b := range [][]byte{sealed(with(four(17, 0, nil, carried(17, 2)), 1, byte(x))), new, with(new, 1, new[1]|15), sealed(with(four(1, 5, []byte{1, 1, 1, 1}, nil), 1, byte(x)))} {
			if d, e, ok := packet.Point(b); d != x/4 || e != x%4 || !ok {
				t.Errorf("Point(%x) = %d, %d, %v", b, d, e, ok)
			}
		}
	}
	for _, c := range broken() {
		if d, e, ok := packet.Point(c.b); d != 0 || e != 0 || ok {
			t.Errorf("Point(%x) = %d, %d, %v", c.b, d, e, ok)
		}
	}
}

// P14.4

func TestKey(t *testing.T) {
	for _, c := range sound() {
		h := c.want
		want := api.Key{V: h.V, Src: srcs[h.V], Dst: dsts[h.V], Proto: h.Proto, Dscp: 46, Ports: h.Ports, SrcPort: h.SrcPort, DstPort: h.DstPort}
		if got, d := packet.Key(c.b); got != want || d != api.Sound {
			t.Errorf("Key(%x) = %v, %d, not %v", c.b[:min(len(c.b), 99)], got, d, want)
		}
	}
	for _, c := range broken() {
		if got, d := packet.Key(c.b); got != (api.Key{}) || d != c.want[0] {
			t.Errorf("Key(%x) = %v, %d, not %d", c.b, got, d, c.want[0])
		}
	}
	for x := range 256 {
		for _, b := range [][]byte{sealed(with(four(0, 0, nil, nil), 1, byte(x))), with(with(six(59), 0, byte(0x60|x>>4)), 1, byte(x<<4))} {
			if k, d := packet.Key(b); k.Dscp != x/4 || d != api.Sound {
				t.Errorf("Key(%x) = %v, %d", b, k, d)
			}
		}
	}
}

// P14.5

func TestName(t *testing.T) {
	all := strings.Fields(names)
	if len(all) != int(api.DefData)+1 {
		t.Fatalf("there are %d names", len(all))
	}
	for d := api.Defect(-300); d < 700; d++ {
		want := ""
		if 0 <= d && int(d) < len(all) {
			want = all[d]
		}
		if got := packet.Name(d); got != want {
			t.Errorf("Name(%d) = %q, not %q", d, got, want)
		}
	}
	for _, d := range []api.Defect{math.MinInt, math.MinInt + 1, math.MaxInt, 1 << 32, 1<<32 + 3} {
		if got := packet.Name(d); got != "" {
			t.Errorf("Name(%d) = %q", d, got)
		}
	}
	for d, want := range map[api.Defect]string{api.Sound: "sound", api.DefIhl: "ihl", api.DefSum: "sum", api.DefTwice: "twice", api.DefData: "data"} {
		if got := packet.Name(d); got != want {
			t.Errorf("Name(%d) = %q, not %q", d, got, want)
		}
	}
}

// P14.7

func TestTell(t *testing.T) {
	cases := []struct {
		b    []byte
		want string
	}{
		{nil, "bad empty"}, {[]byte{1}, "bad version"}, {[]byte{0x45}, "bad short"}, {four(17, 0, nil, nil), "bad ports"}, {six(17, with(carried(17, 0), 5, 0)...), "bad data"}, {six(60), "bad ext"},
		{with(four(0, 0, []byte{7, 5, 0, 0}, nil), 11, 0), "bad option"}, {with(four(0, 0, nil, nil), 11, 0), "bad sum"},
		{four(17, 0, nil, carried(17, 2)), "4 10.0.0.1 192.168.0.199 17 53 1025 ef 1 30 whole"}, {and(four(17, 0, nil, carried(17, 2)), 9), "4 10.0.0.1 192.168.0.199 17 53 1025 ef 1 30 whole"},
		{four(1, 0, nil, []byte{8, 0, 0, 0}), "4 10.0.0.1 192.168.0.199 1 - - ef 1 24 whole"}, {four(6, more, nil, carried(6, 0)), "4 10.0.0.1 192.168.0.199 6 53 1025 ef 1 40 first"}, {four(6, 1, nil, nil), "4 10.0.0.1 192.168.0.199 6 - - ef 1 20 later"},
		{four(17, 0, nil, []byte{0, 0, 0, 0, 0, 8, 0, 0}), "4 10.0.0.1 192.168.0.199 17 0 0 ef 1 28 whole"}, {six(17, 255, 255, 255, 254, 0, 8, 0, 0), "6 2001:db8:405:607:809:a0b:c0d:e0f fe80::100:0:0:2 17 65535 65534 ef 1 48 whole"},
		{sealed(with(four(0, 0, nil, nil), 1, 0)), "4 10.0.0.1 192.168.0.199 0 - - cs0 0 20 whole"}, {sealed(with(four(255, more, nil, nil), 1, 0x9b)), "4 10.0.0.1 192.168.0.199 255 - - af43 3 20 first"}, {sealed(with(four(0, 0, nil, nil), 1, 0xfe)), "4 10.0.0.1 192.168.0.199 0 - - 63 2 20 whole"},
		{six(17, carried(17, 2)...), "6 2001:db8:405:607:809:a0b:c0d:e0f fe80::100:0:0:2 17 53 1025 ef 1 50 whole"}, {six(59), "6 2001:db8:405:607:809:a0b:c0d:e0f fe80::100:0:0:2 59 - - ef 1 40 whole"},
		{six(44, append(split(132, 0, 1), carried(132, 9)...)...), "6 2001:db8:405:607:809:a0b:c0d:e0f fe80::100:0:0:2 132 53 1025 ef 1 69 first"}, {six(44, append(split(17, 1, 0), 1)...), "6 2001:db8:405:607:809:a0b:c0d:e0f fe80::100:0:0:2 17 - - ef 1 49 later"},
		{slices.Concat([]byte{0x60, 0x40, 0, 0, 0, 0, 59, 0}, make([]byte, 32)), "6 :: :: 59 - - le 0 40 whole"},
	}
	for _, c := range cases {
		if got := packet.Tell(c.b); got != c.want {
			t.Errorf("Tell(%x) = %q, not %q", c.b, got, c.want)
		}
	}
	for _, c := range broken() {
		if got, want := packet.Tell(c.b), "bad "+strings.Fields(names)[c.want[0]]; got != want {
			t.Errorf("Tell(%x) = %q, not %q", c.b, got, want)
		}
	}
	for _, c := range sound() {
		if got := packet.Tell(c.b); got != told(c.b) {
			t.Errorf("Tell(%x) = %q, not %q", c.b[:min(len(c.b), 99)], got, told(c.b))
		}
	}
}

// All calls, for packets that are drawn

// drawnPayload tells a transport header and its protocol, or what is nearly one.
func drawnPayload(draw *rand.Rand) (int, []byte) {
	proto := []int{6, 17, 132, 1, 59, draw.Intn(256)}[draw.Intn(6)]
	b, _ := ports.Write(proto, draw.Intn(65536), draw.Intn(65536), make([]byte, draw.Intn(20)))
	switch draw.Intn(4) {
	case 0:
		b = b[:draw.Intn(len(b)+1)]
	case 1:
		if len(b) > 12 {
			b[[]int{4, 5, 12}[draw.Intn(3)]] = byte(draw.Intn(256))
		}
	}
	return proto, b
}

// drawnPacket tells a packet of either version, or what is nearly one.
func drawnPacket(draw *rand.Rand) []byte {
	proto, payload := drawnPayload(draw)
	var b []byte
	if draw.Intn(2) == 0 {
		options := [][]byte{nil, nil, {1, 1, 1, 1}, {7, 3, 5, 0}, {7, 6, 1, 2, 3, 4, 0, 0}, {7, 5, 0, 0}}[draw.Intn(6)]
		b = four(proto, draw.Intn(8)<<13|[]int{0, 0, 0, 1, 8190, 8191}[draw.Intn(6)], options, payload)
	} else {
		for range draw.Intn(4) {
			switch draw.Intn(3) {
			case 0:
				proto, payload = 44, append(split(proto, []int{0, 0, 1, 8191}[draw.Intn(4)], draw.Intn(8)), payload...)
			default:
				proto, payload = []int{0, 43, 60, 60, 135}[draw.Intn(5)], append(ext(proto), payload...)
			}
		}
		b = six(proto, payload...)
	}
	switch draw.Intn(6) {
	case 0:
		at := draw.Intn(len(b))
		b[at] ^= 1 << draw.Intn(8)
		if at > 0 && b[0]>>4 == 4 && draw.Intn(2) == 0 {
			b = sealed(b)
		}
	case 1:
		b = b[:draw.Intn(len(b)+1)]
	case 2:
		b = and(b, draw.Intn(30))
	case 3:
		b = append(bytes.Clone(b[:min(len(b), 48)]), bytes.Repeat([]byte{60, 0, 0, 0, 0, 0, 0, 0}, draw.Intn(12))...)
		if b[0]>>4 == 6 {
			b[4], b[5] = 0, byte(len(b)-40)
		}
	}
	return b
}

func TestDrawnPackets(t *testing.T) {
	draw := rand.New(rand.NewSource(23))
	defects, records := map[api.Defect]int{}, map[string]int{}
	for range 60000 {
		b := drawnPacket(draw)
		check(t, b)
		h, l := exact(b)
		for _, d := range l {
			defects[d]++
		}
		records[fmt.Sprint(h.V, h.Frag, h.Ports, h.Proto == 6, h.Proto == 17)]++
		if t.Failed() {
			t.FailNow()
		}
	}
	for d := api.DefEmpty; d <= api.DefData; d++ {
		if defects[d] == 0 {
			t.Errorf("no packet with defect %d was drawn", d)
		}
	}
	for _, v := range []int{4, 6} {
		for frag := api.Whole; frag <= api.Later; frag++ {
			for _, tcp := range []bool{false, true} {
				if kind := fmt.Sprint(v, frag, frag != api.Later, tcp, !tcp); records[kind] == 0 {
					t.Errorf("no packet of the kind %s was drawn", kind)
				}
			}
		}
	}
}

func TestDrawnBytes(t *testing.T) {
	draw := rand.New(rand.NewSource(29))
	for range 60000 {
		b := make([]byte, draw.Intn(120))
		draw.Read(b)
		if len(b) > 6 && draw.Intn(4) > 0 {
			b[0] = []byte{0x45, 0x46, 0x60, 0x6f}[draw.Intn(4)]
			b[2], b[4] = 0, 0
			if b[0] < 0x60 && len(b) >= 24 && draw.Intn(2) == 0 {
				b = sealed(b)
			}
		}
		check(t, b)
		if t.Failed() {
			t.FailNow()
		}
	}
}

// P14.6

// size tells how many bytes a packet without a defect says that it has.
func size(b []byte) int {
	if b[0]>>4 == 4 {
		return 256*int(b[2]) + int(b[3])
	}
	return 40 + 256*int(b[4]) + int(b[5])
}

func TestRecordOrDefects(t *testing.T) {
	draw := rand.New(rand.NewSource(31))
	for range 30000 {
		b := drawnPacket(draw)
		h, d := packet.Parse(b)
		all := packet.All(b)
		switch {
		case d == api.Sound && (len(all) > 0 || h.V != int(b[0]>>4)), d != api.Sound && (len(all) == 0 || all[0] != d || h != api.Head{}):
			t.Fatalf("of %x %v, %d and %d are told", b, h, d, all)
		case !slices.IsSorted(all) || len(slices.Compact(slices.Clone(all))) != len(all):
			t.Fatalf("All(%x) = %d", b, all)
		}
	}
}

func TestEndOfAPacket(t *testing.T) {
	draw := rand.New(rand.NewSource(37))
	seen := 0
	for range 6000 {
		b := drawnPacket(draw)
		if len(packet.All(b)) > 0 {
			continue
		}
		seen++
		want := []any{}
		for i, c := range [][]byte{b[:size(b)], b, and(b, 1), and(b, 100), append(bytes.Clone(b), b...)} {
			h, d := packet.Parse(c)
			dscp, ecn, ok := packet.Point(c)
			k, e := packet.Key(c)
			got := []any{packet.All(c), h, d, dscp, ecn, ok, k, e, packet.Tell(c)}
			if i == 0 {
				want = got
			}
			if !reflect.DeepEqual(got, want) {
				t.Fatalf("of %x %v is told, not %v", c, got, want)
			}
		}
		for n := range size(b) {
			if h, d := packet.Parse(b[:n]); h != (api.Head{}) || d == api.Sound || len(packet.All(b[:n])) == 0 {
				t.Fatalf("Parse of the first %d bytes of %x = %v, %d", n, b, h, d)
			}
		}
	}
	if seen < 1000 {
		t.Errorf("only %d packets had no defect", seen)
	}
}

// P3 of the general rules

// answers tells what each call answers for bytes.
func answers(b []byte) []any {
	h, d := packet.Parse(b)
	dscp, ecn, ok := packet.Point(b)
	k, e := packet.Key(b)
	return []any{packet.All(b), h, d, dscp, ecn, ok, k, e, packet.Tell(b)}
}

func TestArgumentsStay(t *testing.T) {
	for _, whole := range [][]byte{and(four(17, 0, []byte{1, 7, 3, 9}, carried(17, 5)), 9), and(six(0, slices.Concat(ext(44), split(6, 0, 1), carried(6, 5))...), 9)} {
		kept := bytes.Clone(whole)
		for n := range len(whole) + 1 {
			answers(whole[:n])
			if !bytes.Equal(whole, kept) {
				t.Fatalf("the argument became %x", whole)
			}
		}
	}
}

func TestResultsAreNewMemory(t *testing.T) {
	for _, c := range broken() {
		got := packet.All(c.b)
		for i := range got[:cap(got)] {
			got[:cap(got)][i] = 99
		}
		if again := packet.All(c.b); !slices.Equal(again, c.want) {
			t.Errorf("All(%x) = %d, not %d", c.b, again, c.want)
		}
	}
}

func TestOnlyTheLengthCounts(t *testing.T) {
	for _, whole := range [][]byte{four(17, 0, nil, carried(17, 5)), six(44, append(split(17, 0, 1), carried(17, 5)...)...)} {
		for n := range whole {
			if got, want := answers(whole[:n]), answers(bytes.Clone(whole[:n:n])); !reflect.DeepEqual(got, want) {
				t.Errorf("of %d bytes %v is told, not %v", n, got, want)
			}
		}
	}
	if got, want := answers(nil), answers([]byte{}); !reflect.DeepEqual(got, want) {
		t.Errorf("of nil %v is told, not %v", got, want)
	}
}

// P5 of the general rules: a call answers the same whatever was called ahead of it.
func TestNothingIsKept(t *testing.T) {
	for range 3 {
		for _, c := range sound() {
			check(t, c.b)
		}
		for _, c := range broken() {
			check(t, c.b)
		}
	}
}
