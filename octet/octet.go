// Package octet is layer 1: see shared/doc/01-octet.md.
package octet

import "towrope/api"

// The sizes of the numbers, in bytes, and the greatest unit of Pad.
const (
	size16  = 2
	size32  = 4
	maxUnit = 64
)

// Put16: two bytes.
func Put16(b []byte, n int) []byte { return Join(b, digits(uint32(n), size16)) }

// Put32: four bytes.
func Put32(b []byte, n uint32) []byte { return Join(b, digits(n, size32)) }

// Get16: of two bytes.
func Get16(b []byte, at int) (int, api.Errno) {
	n, e := number(b, at, size16)
	return int(n), e
}

// Get32: of four bytes.
func Get32(b []byte, at int) (uint32, api.Errno) { return number(b, at, size32) }

// Cut: some bytes.
func Cut(b []byte, at, n int) ([]byte, api.Errno) {
	if e := within(b, at, n); e != api.OK {
		return nil, e
	}
	return Join(b[at : at+n]), api.OK
}

// Zeros: bytes 0.
func Zeros(n int) ([]byte, api.Errno) {
	if n < 0 {
		return nil, api.ErrArg
	}
	if n > api.MaxPacket {
		return nil, api.ErrLong
	}
	return make([]byte, n), api.OK
}

// Pad: to a multiple.
func Pad(b []byte, unit int) ([]byte, api.Errno) {
	if unit < 1 || unit > maxUnit {
		return nil, api.ErrArg
	}
	over := len(b) % unit
	if over == 0 {
		return Join(b), api.OK
	}
	return Join(b, make([]byte, unit-over)), api.OK
}

// Join: one behind the other.
func Join(l ...[]byte) []byte {
	total := 0
	for _, b := range l {
		total += len(b)
	}
	// Made at its full length at once: appending to one of l could write into its unused capacity.
	out := make([]byte, 0, total)
	for _, b := range l {
		out = append(out, b...)
	}
	return out
}

// within tells whether b has n bytes from index at on.
func within(b []byte, at, n int) api.Errno {
	if at < 0 || at > len(b) {
		return api.ErrRange
	}
	if n < 0 {
		return api.ErrArg
	}
	// Not at+n > len(b): that sum wraps round for a great n.
	if n > len(b)-at {
		return api.ErrShort
	}
	return api.OK
}

// digits returns the size least significant bytes of n, the most significant one first.
func digits(n uint32, size int) []byte {
	out := make([]byte, size)
	for i := range size {
		out[size-1-i] = byte(n >> (8 * i))
	}
	return out
}

// number reads what digits wrote; it takes no Cut, for headers are read often and a cut is new memory.
func number(b []byte, at, size int) (uint32, api.Errno) {
	if e := within(b, at, size); e != api.OK {
		return 0, e
	}
	var n uint32
	for i := range size {
		n = n<<8 | uint32(b[at+i])
	}
	return n, api.OK
}
