// Package octet is numbers in bytes, the highest byte first, bits of numbers, and bytes as digits. See ../../shared/doc/01-octet.md.
package octet

import "weighbridge/api"

// digits are the hexadecimal digits, each at its value.
const digits = "0123456789abcdef"

// Get tells the number of so many bytes at a place.
func Get(b []byte, at, width int) (uint64, api.Errno) {
	if !numbered(at, width) {
		return 0, api.ErrRange
	}
	if !holds(b, at, width) {
		return 0, api.ErrShort
	}
	var n uint64
	for _, x := range b[at : at+width] {
		n = n<<8 | uint64(x)
	}
	return n, api.OK
}

// Put puts a number at a place.
func Put(b []byte, at, width int, n uint64) ([]byte, api.Errno) {
	if !numbered(at, width) || n > ones(8*width) {
		return nil, api.ErrRange
	}
	if !holds(b, at, width) {
		return nil, api.ErrShort
	}
	out := make([]byte, len(b))
	copy(out, b)
	for i := range width {
		out[at+i] = byte(n >> (8 * (width - 1 - i)))
	}
	return out, api.OK
}

// Cut tells so many bytes from a place on.
func Cut(b []byte, at, n int) ([]byte, api.Errno) {
	if at < 0 || n < 0 {
		return nil, api.ErrRange
	}
	if !holds(b, at, n) {
		return nil, api.ErrShort
	}
	out := make([]byte, n)
	copy(out, b[at:])
	return out, api.OK
}

// Bits tells some bits of a number.
func Bits(n uint64, from, count int) uint64 {
	if !within(from, count) {
		return 0
	}
	return n >> from & ones(count)
}

// SetBits puts some bits into a number.
func SetBits(n uint64, from, count int, x uint64) uint64 {
	if !within(from, count) {
		return n
	}
	field := ones(count) << from
	return n&^field | x<<from&field
}

// Hex tells bytes as digits.
func Hex(b []byte) string {
	out := make([]byte, 0, 2*len(b))
	for _, x := range b {
		out = append(out, digits[x>>4], digits[x&15])
	}
	return string(out)
}

// Unhex tells digits' bytes.
func Unhex(s string) ([]byte, api.Fault) {
	for i := range len(s) {
		if _, ok := value(s[i]); !ok {
			return nil, api.Fault{Errno: api.ErrForm, At: i}
		}
	}
	if len(s)%2 != 0 {
		return nil, api.Fault{Errno: api.ErrCut, At: len(s)}
	}
	out := make([]byte, len(s)/2)
	for i := range out {
		high, _ := value(s[2*i])
		low, _ := value(s[2*i+1])
		out[i] = high<<4 | low
	}
	return out, api.Fault{}
}

// numbered tells whether a number of so many bytes may be asked for at a place.
func numbered(at, width int) bool {
	return 1 <= width && width <= 8 && at >= 0
}

// holds tells whether so many bytes start at a place; both are at least 0.
// It subtracts, since the sum of the two may go beyond an int.
func holds(b []byte, at, n int) bool {
	return at <= len(b) && n <= len(b)-at
}

// within tells whether so many bits from one on are bits of a number of 64.
func within(from, count int) bool {
	return 0 <= from && from <= 63 && 0 <= count && count <= 64-from
}

// ones tells the number whose lowest bits, so many, are set.
// With 64 of them the shift leaves 0, and 0 - 1 goes round to all bits.
func ones(count int) uint64 {
	return uint64(1)<<count - 1
}

// value tells what a digit stands for, and whether it is one.
func value(c byte) (byte, bool) {
	switch {
	case '0' <= c && c <= '9':
		return c - '0', true
	case 'a' <= c && c <= 'f':
		return c - 'a' + 10, true
	}
	return 0, false
}
