package ports_test

import (
	"bytes"
	"math"
	"math/rand"
	"reflect"
	"testing"

	"weighbridge/api"
	"weighbridge/ports"
)

// least are the protocols that have ports, and how many bytes their headers have at least.
func least() map[int]int {
	return map[int]int{6: 20, 17: 8, 132: 12}
}

// portless are numbers that are no protocol with ports.
func portless() []int {
	return []int{0, 1, 2, 5, 7, 16, 18, 33, 44, 59, 131, 133, 136, 255, 256, 256 + 6, 256 + 17, -1, -6, -17, -132, 1 << 32, 1<<32 + 6, math.MinInt, math.MinInt + 17, math.MaxInt}
}

// filled tells so many bytes that are unlike each other.
func filled(n int) []byte {
	b := make([]byte, n)
	for i := range b {
		b[i] = byte(31*i + i/256 + 5)
	}
	return b
}

// tcp tells a header of Tcp whose length is so many words, the first of so many bytes.
func tcp(words, n int) []byte {
	b := filled(max(n, 20))
	b[12] = byte(words<<4) | 0x0f
	return b[:n]
}

// udp tells a header of Udp that tells a length, the first of so many bytes.
func udp(length, n int) []byte {
	b := filled(max(n, 8))
	b[4], b[5] = byte(length>>8), byte(length)
	return b[:n]
}

// P13.1

func TestLeast(t *testing.T) {
	for proto := -300; proto < 700; proto++ {
		if got := ports.Least(proto); got != least()[proto] {
			t.Errorf("Least(%d) = %d, not %d", proto, got, least()[proto])
		}
	}
	for _, proto := range portless() {
		if got := ports.Least(proto); got != 0 {
			t.Errorf("Least(%d) = %d", proto, got)
		}
	}
	if ports.Least(api.Tcp) != 20 || ports.Least(api.Udp) != 8 || ports.Least(api.Sctp) != 12 {
		t.Errorf("Least of Tcp, Udp and Sctp = %d, %d, %d", ports.Least(api.Tcp), ports.Least(api.Udp), ports.Least(api.Sctp))
	}
}

// P13.2

// checkRead holds Read against a defect, and without one against the ports in the first four bytes.
func checkRead(t *testing.T, proto int, b []byte, first bool, want api.Defect) {
	t.Helper()
	src, dst := 0, 0
	if want == api.Sound && least()[proto] > 0 {
		src, dst = 256*int(b[0])+int(b[1]), 256*int(b[2])+int(b[3])
	}
	if s, d, got := ports.Read(proto, b, first); s != src || d != dst || got != want {
		t.Errorf("Read(%d, %x, %v) = %d, %d, %d, not %d, %d, %d", proto, b, first, s, d, got, src, dst, want)
	}
}

func TestRead(t *testing.T) {
	cases := []struct {
		proto    int
		b        []byte
		src, dst int
	}{
		{api.Udp, []byte{0, 53, 4, 1, 0, 10, 0, 0, 7, 8}, 53, 1025}, {api.Udp, []byte{255, 255, 255, 254, 0, 8, 1, 2}, 65535, 65534}, {api.Udp, []byte{0, 0, 0, 0, 0, 8, 0, 0, 9}, 0, 0},
		{api.Tcp, []byte{1, 2, 3, 4, 0, 0, 0, 0, 0, 0, 0, 0, 0x50, 0, 0, 0, 0, 0, 0, 0}, 258, 772}, {api.Tcp, append([]byte{128, 0, 0, 80, 9, 9, 9, 9, 9, 9, 9, 9, 0x6f}, make([]byte, 11)...), 32768, 80},
		{api.Sctp, []byte{0, 1, 0, 2, 0, 0, 0, 0, 0, 0, 0, 0}, 1, 2}, {api.Sctp, bytes.Repeat([]byte{0x12}, 99), 0x1212, 0x1212},
	}
	for _, c := range cases {
		for _, first := range []bool{false, true} {
			if src, dst, d := ports.Read(c.proto, c.b, first); src != c.src || dst != c.dst || d != api.Sound {
				t.Errorf("Read(%d, %x, %v) = %d, %d, %d, not %d, %d", c.proto, c.b, first, src, dst, d, c.src, c.dst)
			}
		}
	}
}

func TestReadOfNoPorts(t *testing.T) {
	for _, proto := range portless() {
		for _, b := range [][]byte{nil, {}, {1}, filled(3), filled(4), filled(8), filled(99)} {
			checkRead(t, proto, b, false, api.Sound)
			checkRead(t, proto, b, true, api.Sound)
		}
	}
}

func TestReadOfEveryLength(t *testing.T) {
	for n := range 30 {
		for _, first := range []bool{false, true} {
			for proto, b := range map[int][]byte{6: tcp(5, n), 17: udp(8, n), 132: filled(n)} {
				want := api.Sound
				if n < least()[proto] {
					want = api.DefPorts
				}
				checkRead(t, proto, b, first, want)
			}
			// With too few bytes nothing is told of what those that are there say.
			if n < 20 {
				checkRead(t, api.Tcp, tcp(4, n), first, api.DefPorts)
				checkRead(t, api.Tcp, tcp(15, n), first, api.DefPorts)
			}
			if n < 8 {
				checkRead(t, api.Udp, udp(7, n), first, api.DefPorts)
				checkRead(t, api.Udp, udp(9, n), first, api.DefPorts)
			}
		}
	}
	for proto := range least() {
		checkRead(t, proto, nil, false, api.DefPorts)
		checkRead(t, proto, []byte{}, true, api.DefPorts)
	}
}

func TestReadOfEveryTcpLength(t *testing.T) {
	for words := range 16 {
		for n := 20; n < 70; n++ {
			want := api.Sound
			if words <= 4 || words*4 > n {
				want = api.DefData
			}
			// Also a first fragment must have all of its header.
			checkRead(t, api.Tcp, tcp(words, n), false, want)
			checkRead(t, api.Tcp, tcp(words, n), true, want)
		}
	}
}

func TestReadOfEveryUdpLength(t *testing.T) {
	for n := 8; n < 20; n++ {
		for length := range 65536 {
			whole, first := api.Sound, api.Sound
			if length < 8 || length > n {
				whole = api.DefData
			}
			if length < 8 {
				first = api.DefData
			}
			checkRead(t, api.Udp, udp(length, n), false, whole)
			checkRead(t, api.Udp, udp(length, n), true, first)
		}
	}
	for _, n := range []int{256, 65534, 65535, 65536, 70000} {
		for _, length := range []int{7, 8, 255, 256, 257, 65533, 65534, 65535} {
			want := api.Sound
			if length < 8 || length > n {
				want = api.DefData
			}
			checkRead(t, api.Udp, udp(length, n), false, want)
		}
	}
}

func TestReadOfEverySctpByte(t *testing.T) {
	for at := 4; at < 12; at++ {
		for x := range 256 {
			b := filled(12)
			b[at] = byte(x)
			checkRead(t, api.Sctp, b, x%2 == 0, api.Sound)
		}
	}
}

// P13.3

// exact tells a header and its data, byte by byte.
func exact(proto, src, dst int, data []byte) []byte {
	b := []byte{byte(src / 256), byte(src % 256), byte(dst / 256), byte(dst % 256)}
	switch n := 8 + len(data); proto {
	case 6:
		b = append(b, 0, 0, 0, 0, 0, 0, 0, 0, 0x50, 0, 0, 0, 0, 0, 0, 0)
	case 17:
		b = append(b, byte(n/256), byte(n%256), 0, 0)
	case 132:
		b = append(b, 0, 0, 0, 0, 0, 0, 0, 0)
	}
	return append(b, data...)
}

func TestWrite(t *testing.T) {
	if got, e := ports.Write(api.Udp, 53, 1025, []byte{7, 9}); !bytes.Equal(got, []byte{0, 0x35, 4, 1, 0, 0x0a, 0, 0, 7, 9}) || e != api.OK {
		t.Errorf("Write of Udp = %x, %d", got, e)
	}
	if got, e := ports.Write(api.Tcp, 0x1234, 0x5678, []byte{7}); !bytes.Equal(got, []byte{0x12, 0x34, 0x56, 0x78, 0, 0, 0, 0, 0, 0, 0, 0, 0x50, 0, 0, 0, 0, 0, 0, 0, 7}) || e != api.OK {
		t.Errorf("Write of Tcp = %x, %d", got, e)
	}
	if got, e := ports.Write(api.Sctp, 65535, 0, nil); !bytes.Equal(got, []byte{0xff, 0xff, 0, 0, 0, 0, 0, 0, 0, 0, 0, 0}) || e != api.OK {
		t.Errorf("Write of Sctp = %x, %d", got, e)
	}
}

func TestWriteOfEveryPort(t *testing.T) {
	for proto := range least() {
		for port := range 65536 {
			for _, pair := range [][2]int{{port, 5}, {5, port}, {port, 65535 - port}} {
				if got, e := ports.Write(proto, pair[0], pair[1], nil); !bytes.Equal(got, exact(proto, pair[0], pair[1], nil)) || e != api.OK {
					t.Fatalf("Write(%d, %d, %d) = %x, %d", proto, pair[0], pair[1], got, e)
				}
			}
		}
	}
}

func TestWriteOfEveryLength(t *testing.T) {
	for proto, n := range least() {
		for _, size := range []int{0, 1, 2, 3, 247, 248, 249, 1000, 65533 - n, 65534 - n, 65535 - n} {
			data := filled(size)
			if got, e := ports.Write(proto, 1, 2, data); !bytes.Equal(got, exact(proto, 1, 2, data)) || len(got) != n+size || e != api.OK {
				t.Errorf("Write(%d) of %d bytes has %d, %d", proto, size, len(got), e)
			}
		}
		for _, size := range []int{65536 - n, 65537 - n, 65535, 65536, 131072 - n, 200000} {
			if got, e := ports.Write(proto, 1, 2, make([]byte, size)); got != nil || e != api.ErrLong {
				t.Errorf("Write(%d) of %d bytes has %d, %d", proto, size, len(got), e)
			}
		}
	}
}

// unports are numbers that are no port.
func unports() []int {
	return []int{-1, -2, -65535, -65536, 65536, 65537, 131072, 1 << 32, 1<<32 + 80, math.MaxInt, math.MinInt, math.MinInt + 80}
}

func TestWriteErrors(t *testing.T) {
	refuse := func(proto, src, dst, size int, want api.Errno) {
		t.Helper()
		if got, e := ports.Write(proto, src, dst, make([]byte, size)); got != nil || e != want {
			t.Errorf("Write(%d, %d, %d) of %d bytes = %x, %d, not %d", proto, src, dst, size, got, e, want)
		}
	}
	for _, proto := range portless() {
		refuse(proto, 1, 2, 3, api.ErrKind)
		refuse(proto, 0, 0, 70000, api.ErrKind)
		for _, n := range unports() {
			refuse(proto, n, n, 70000, api.ErrKind)
		}
	}
	for proto := range least() {
		for _, n := range unports() {
			for _, size := range []int{0, 9, 70000} {
				refuse(proto, n, 2, size, api.ErrRange)
				refuse(proto, 1, n, size, api.ErrRange)
				refuse(proto, n, n, size, api.ErrRange)
			}
		}
	}
}

// P13.4

func TestReadOfWrite(t *testing.T) {
	draw := rand.New(rand.NewSource(7))
	for proto, n := range least() {
		for i := range 3000 {
			src, dst, data := draw.Intn(65536), draw.Intn(65536), make([]byte, draw.Intn(99))
			if i == 0 {
				data = make([]byte, 65535-n)
			}
			draw.Read(data)
			b, e := ports.Write(proto, src, dst, data)
			if e != api.OK {
				t.Fatalf("Write(%d, %d, %d, %x) = %d", proto, src, dst, data, e)
			}
			s, d, defect := ports.Read(proto, b, i%2 == 0)
			if s != src || d != dst || defect != api.Sound {
				t.Fatalf("Read(%d, %x) = %d, %d, %d, not %d, %d", proto, b, s, d, defect, src, dst)
			}
		}
	}
}

// P13.5

// key tells a key whose bytes and numbers are unlike each other.
func key(v, proto int) api.Key {
	k := api.Key{V: v, Proto: proto, Dscp: 46, Ports: true, SrcPort: 53, DstPort: 1025}
	for i := range 16 {
		k.Src[i], k.Dst[i] = byte(17*i+200), byte(29*i+91)
	}
	return k
}

// sumOf tells the sum of words by their total, which is a multiple of FFFF more; only of nothing but zeros it is 0.
func sumOf(b []byte) int {
	total := 0
	for i, x := range b {
		if i%2 == 0 {
			total += 256 * int(x)
		} else {
			total += int(x)
		}
	}
	if total == 0 {
		return 0
	}
	return (total-1)%65535 + 1
}

// whole tells all the bytes that are summed, written one by one.
func whole(k api.Key, b []byte) []byte {
	n := len(b)
	var out []byte
	if k.V == 4 {
		for i := range 4 {
			out = append(out, k.Src[i])
		}
		for i := range 4 {
			out = append(out, k.Dst[i])
		}
		out = append(out, 0, byte(k.Proto), byte(n/256), byte(n%256))
	} else {
		for _, x := range k.Src {
			out = append(out, x)
		}
		for _, x := range k.Dst {
			out = append(out, x)
		}
		out = append(out, 0, 0, byte(n/256), byte(n%256), 0, 0, 0, byte(k.Proto))
	}
	return append(out, b...)
}

func TestSum(t *testing.T) {
	b := []byte{0, 0x35, 4, 1, 0, 0x0a, 0, 0, 0x41, 0x42}
	four := api.Key{V: 4, Src: [16]byte{10, 0, 0, 1}, Dst: [16]byte{10, 0, 0, 2}, Proto: api.Udp}
	if got, e := ports.Sum(four, b); got != 0x59a0 || e != api.OK {
		t.Errorf("Sum of version 4 = %x, %d", got, e)
	}
	six := api.Key{V: 6, Src: [16]byte{0x20, 1, 0x0d, 0xb8, 15: 1}, Dst: [16]byte{0x20, 1, 0x0d, 0xb8, 15: 2}, Proto: api.Udp}
	if got, e := ports.Sum(six, b); got != 0xa112 || e != api.OK {
		t.Errorf("Sum of version 6 = %x, %d", got, e)
	}
	// With zeros everywhere else there are the protocol and the length alone.
	for _, v := range []int{4, 6} {
		if got, e := ports.Sum(api.Key{V: v, Proto: api.Tcp}, make([]byte, 20)); got != 26 || e != api.OK {
			t.Errorf("Sum of zeros of version %d = %x, %d", v, got, e)
		}
		if got, e := ports.Sum(api.Key{V: v, Proto: api.Udp}, append(make([]byte, 8), 1)); got != 0x100+26 || e != api.OK {
			t.Errorf("Sum of a last byte alone of version %d = %x, %d", v, got, e)
		}
	}
}

func TestSumOfEveryLength(t *testing.T) {
	for _, v := range []int{4, 6} {
		for _, proto := range []int{api.Tcp, api.Udp} {
			k := key(v, proto)
			sizes := []int{255, 256, 257, 511, 1500, 32768, 65533, 65534, 65535}
			for n := range 70 {
				sizes = append(sizes, n)
			}
			for _, n := range sizes {
				if n < least()[proto] {
					continue
				}
				b := filled(n)
				if got, e := ports.Sum(k, b); int(got) != sumOf(whole(k, b)) || e != api.OK {
					t.Errorf("Sum(%v) of %d bytes = %x, %d, not %x", k, n, got, e, sumOf(whole(k, b)))
				}
			}
		}
	}
}

func TestSumOfDrawn(t *testing.T) {
	draw := rand.New(rand.NewSource(11))
	for range 20000 {
		k := api.Key{V: 4 + 2*draw.Intn(2), Proto: []int{6, 17}[draw.Intn(2)]}
		draw.Read(k.Src[:])
		draw.Read(k.Dst[:])
		b := make([]byte, 20+draw.Intn(40))
		draw.Read(b)
		if got, e := ports.Sum(k, b); int(got) != sumOf(whole(k, b)) || e != api.OK {
			t.Fatalf("Sum(%v, %x) = %x, %d, not %x", k, b, got, e, sumOf(whole(k, b)))
		}
	}
}

// TestSumOfEveryKeyByte holds that each byte of the addresses counts where it is, and that nothing else of a key does.
func TestSumOfEveryKeyByte(t *testing.T) {
	b := filled(31)
	for _, v := range []int{4, 6} {
		k := key(v, api.Tcp)
		was, _ := ports.Sum(k, b)
		for i := range 16 {
			src, dst := k, k
			src.Src[i] ^= 1
			dst.Dst[i] ^= 1
			for _, other := range []api.Key{src, dst} {
				got, e := ports.Sum(other, b)
				if int(got) != sumOf(whole(other, b)) || (got == was) != (v == 4 && i >= 4) || e != api.OK {
					t.Errorf("Sum(%v, %x) = %x, %d", other, b, got, e)
				}
			}
		}
		other := k
		other.Dscp, other.Ports, other.SrcPort, other.DstPort = -9, false, 1<<40, -1
		if got, e := ports.Sum(other, b); got != was || e != api.OK {
			t.Errorf("Sum(%v, %x) = %x, %d, not %x", other, b, got, e, was)
		}
	}
}

// refused are keys and payloads that cannot be summed.
func refused() []struct {
	k api.Key
	b []byte
	e api.Errno
} {
	type row = struct {
		k api.Key
		b []byte
		e api.Errno
	}
	var l []row
	for _, v := range []int{0, 1, 3, 5, 7, -4, -6, 46, 64, 1<<32 + 4, math.MinInt, math.MaxInt} {
		l = append(l, row{key(v, api.Tcp), filled(20), api.ErrVersion}, row{key(v, 0), nil, api.ErrVersion}, row{key(v, api.Udp), make([]byte, 65536), api.ErrVersion})
	}
	for _, v := range []int{4, 6} {
		for _, proto := range append(portless(), api.Sctp) {
			l = append(l, row{key(v, proto), filled(20), api.ErrKind}, row{key(v, proto), nil, api.ErrKind}, row{key(v, proto), make([]byte, 65536), api.ErrKind})
		}
		for n := range 20 {
			l = append(l, row{key(v, api.Tcp), filled(n), api.ErrShort})
			if n < 8 {
				l = append(l, row{key(v, api.Udp), filled(n), api.ErrShort})
			}
		}
		for _, n := range []int{65536, 65537, 131072 + 20, 200000} {
			l = append(l, row{key(v, api.Tcp), make([]byte, n), api.ErrLong}, row{key(v, api.Udp), make([]byte, n), api.ErrLong})
		}
	}
	return append(l, row{api.Key{}, nil, api.ErrVersion}, row{key(4, api.Tcp), nil, api.ErrShort}, row{key(6, api.Udp), []byte{}, api.ErrShort})
}

func TestSumErrors(t *testing.T) {
	for _, c := range refused() {
		if got, e := ports.Sum(c.k, c.b); got != 0 || e != c.e {
			t.Errorf("Sum(%v) of %d bytes = %x, %d, not %d", c.k, len(c.b), got, e, c.e)
		}
	}
}

// P13.6

// sealed tells a sealed payload, its checksum from the total of the words.
func sealed(k api.Key, b []byte) []byte {
	at := 16
	if k.Proto == 17 {
		at = 6
	}
	out := bytes.Clone(b)
	out[at], out[at+1] = 0, 0
	n := 65535 - sumOf(whole(k, out))
	if k.Proto == 17 && n == 0 {
		n = 65535
	}
	out[at], out[at+1] = byte(n/256), byte(n%256)
	return out
}

func TestSeal(t *testing.T) {
	k := api.Key{V: 4, Src: [16]byte{10, 0, 0, 1}, Dst: [16]byte{10, 0, 0, 2}, Proto: api.Udp}
	if got, e := ports.Seal(k, []byte{0, 0x35, 4, 1, 0, 0x0a, 9, 9, 0x41, 0x42}); !bytes.Equal(got, []byte{0, 0x35, 4, 1, 0, 0x0a, 0xa6, 0x5f, 0x41, 0x42}) || e != api.OK {
		t.Errorf("Seal of version 4 = %x, %d", got, e)
	}
	k = api.Key{V: 6, Src: [16]byte{0x20, 1, 0x0d, 0xb8, 15: 1}, Dst: [16]byte{0x20, 1, 0x0d, 0xb8, 15: 2}, Proto: api.Udp}
	if got, e := ports.Seal(k, []byte{0, 0x35, 4, 1, 0, 0x0a, 0, 0, 0x41, 0x42}); !bytes.Equal(got, []byte{0, 0x35, 4, 1, 0, 0x0a, 0x5e, 0xed, 0x41, 0x42}) || e != api.OK {
		t.Errorf("Seal of version 6 = %x, %d", got, e)
	}
	// The words of zeros come to 26 with the protocol and the length.
	want := make([]byte, 20)
	want[16], want[17] = 0xff, 0xe5
	if got, e := ports.Seal(api.Key{V: 6, Proto: api.Tcp}, make([]byte, 20)); !bytes.Equal(got, want) || e != api.OK {
		t.Errorf("Seal of Tcp = %x, %d", got, e)
	}
}

func TestSealOfDrawn(t *testing.T) {
	draw := rand.New(rand.NewSource(13))
	for i := range 20000 {
		k := key(4+2*draw.Intn(2), []int{6, 17}[draw.Intn(2)])
		b := make([]byte, least()[k.Proto]+draw.Intn(40))
		if i < 8 {
			b = make([]byte, 65535-i)
		}
		draw.Read(b)
		if got, e := ports.Seal(k, b); !bytes.Equal(got, sealed(k, b)) || e != api.OK {
			t.Fatalf("Seal(%v, %x) = %x, %d, not %x", k, b, got, e, sealed(k, b))
		}
	}
}

// TestSealOfEverySum seals payloads whose sums are each of the words from 1 on: of FFFF nothing is left, which is FFFF to Udp alone.
func TestSealOfEverySum(t *testing.T) {
	for _, v := range []int{4, 6} {
		for _, proto := range []int{api.Tcp, api.Udp} {
			n, at := 20, 16
			if proto == api.Udp {
				n, at = 8, 6
			}
			for sum := 1; sum <= 65535; sum++ {
				first := (sum + 65535 - proto - n) % 65535
				b := make([]byte, n)
				b[0], b[1] = byte(first/256), byte(first%256)
				want := bytes.Clone(b)
				left := 65535 - sum
				if left == 0 && proto == api.Udp {
					left = 65535
				}
				want[at], want[at+1] = byte(left/256), byte(left%256)
				if got, e := ports.Seal(api.Key{V: v, Proto: proto}, b); !bytes.Equal(got, want) || e != api.OK {
					t.Fatalf("Seal of version %d and %d of %x = %x, %d, not %x", v, proto, b, got, e, want)
				}
			}
		}
	}
}

func TestSealErrors(t *testing.T) {
	for _, c := range refused() {
		if got, e := ports.Seal(c.k, c.b); got != nil || e != c.e {
			t.Errorf("Seal(%v) of %d bytes = %x, %d, not %d", c.k, len(c.b), got, e, c.e)
		}
	}
}

// P13.7

func TestSumOfSeal(t *testing.T) {
	draw := rand.New(rand.NewSource(17))
	for range 20000 {
		k := api.Key{V: 4 + 2*draw.Intn(2), Proto: []int{6, 17}[draw.Intn(2)]}
		if draw.Intn(2) == 0 {
			draw.Read(k.Src[:])
		}
		b := make([]byte, least()[k.Proto]+draw.Intn(30))
		if draw.Intn(4) > 0 {
			draw.Read(b)
		}
		once, e := ports.Seal(k, b)
		sum, f := ports.Sum(k, once)
		twice, g := ports.Seal(k, once)
		if sum != 0xffff || !bytes.Equal(twice, once) || e != api.OK || f != api.OK || g != api.OK {
			t.Fatalf("Sum(%v, %x) = %x, %d, and sealed again %x, %d", k, once, sum, f, twice, g)
		}
	}
}

// P3 of the general rules

// answers tells what each call answers for bytes.
func answers(b []byte) []any {
	var l []any
	for _, proto := range []int{6, 17, 132, 1} {
		for _, first := range []bool{false, true} {
			src, dst, d := ports.Read(proto, b, first)
			l = append(l, src, dst, d)
		}
		wrote, e := ports.Write(proto, 1, 2, b)
		l = append(l, wrote, e)
		for _, v := range []int{4, 6, 5} {
			sum, e := ports.Sum(key(v, proto), b)
			out, f := ports.Seal(key(v, proto), b)
			l = append(l, sum, e, out, f)
		}
	}
	return l
}

func TestArgumentsStay(t *testing.T) {
	b := filled(50)
	for n := range len(b) + 1 {
		answers(b[:n])
		if !bytes.Equal(b, filled(50)) {
			t.Fatalf("the argument became %x", b)
		}
	}
}

// spoil changes all that a slice has room for.
func spoil(b []byte) {
	b = b[:cap(b)]
	for i := range b {
		b[i] ^= 0xff
	}
}

func TestResultsAreNewMemory(t *testing.T) {
	b := tcp(5, 24)
	kept, want := bytes.Clone(b), answers(b)
	for _, a := range answers(b) {
		if s, ok := a.([]byte); ok {
			spoil(s)
		}
	}
	if !bytes.Equal(b, kept) {
		t.Errorf("a result shares memory with the argument: %x", b)
	}
	if got := answers(b); !reflect.DeepEqual(got, want) {
		t.Errorf("answers = %v, not %v", got, want)
	}
}

func TestOnlyTheLengthCounts(t *testing.T) {
	b := tcp(5, 50)
	b[4], b[5] = 0, 30
	for n := range b {
		if got, want := answers(b[:n]), answers(bytes.Clone(b[:n:n])); !reflect.DeepEqual(got, want) {
			t.Errorf("of %d bytes %v is told, not %v", n, got, want)
		}
	}
	if got, want := answers(nil), answers([]byte{}); !reflect.DeepEqual(got, want) {
		t.Errorf("of nil %v is told, not %v", got, want)
	}
}

// P5 of the general rules: a call answers the same whatever was called ahead of it.
func TestNothingIsKept(t *testing.T) {
	sound, short := udp(40, 40), tcp(5, 19)
	want, other := answers(sound), answers(short)
	for range 3 {
		if got := answers(sound); !reflect.DeepEqual(got, want) {
			t.Errorf("answers = %v, not %v", got, want)
		}
		if got := answers(short); !reflect.DeepEqual(got, other) {
			t.Errorf("answers = %v, not %v", got, other)
		}
	}
}
