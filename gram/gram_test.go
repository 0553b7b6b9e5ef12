package gram_test

import (
	"bytes"
	"math"
	"reflect"
	"testing"

	"towrope/api"
	"towrope/gram"
)

// folded is the ones' complement sum of words, told by their sum as a number: 1 to 65535 stand for the rests by 65535, and only zeros make 0.
func folded(total int) int {
	if total == 0 {
		return 0
	}
	return (total-1)%65535 + 1
}

// total adds the words of b without bringing a carry round; a single last byte is the upper half of a word.
func total(b []byte) int {
	n := 0
	for i, c := range b {
		if i%2 == 0 {
			n += 256 * int(c)
		} else {
			n += int(c)
		}
	}
	return n
}

// around adds the words of the pseudo-header, told as numbers.
func around(src, dst api.Addr, length int) int {
	return int(src)/65536 + int(src)%65536 + int(dst)/65536 + int(dst)%65536 + 17 + length
}

// word reads two bytes.
func word(b []byte, at int) int { return 256*int(b[at]) + int(b[at+1]) }

// set writes a word at index at.
func set(b []byte, at, n int) { b[at], b[at+1] = byte(n/256), byte(n%256) }

// untold writes a datagram without a checksum, in another way than the program: one byte after the other.
func untold(g api.Gram) []byte {
	n := 8 + len(g.Data)
	return append([]byte{byte(g.Src / 256), byte(g.Src % 256), byte(g.Dst / 256), byte(g.Dst % 256), byte(n / 256), byte(n % 256), 0, 0}, g.Data...)
}

// right writes the checksum with which the datagram b is right as a whole.
func right(src, dst api.Addr, b []byte) {
	set(b, 6, 0)
	n := 65535 - folded(around(src, dst, len(b))+total(b))
	if n == 0 {
		n = 65535
	}
	set(b, 6, n)
}

// told writes a datagram with its checksum.
func told(src, dst api.Addr, g api.Gram) []byte {
	b := untold(g)
	right(src, dst, b)
	return b
}

// heard reads a datagram in another way than the program.
func heard(src, dst api.Addr, b []byte) (api.Gram, api.Errno) {
	if len(b) < 8 {
		return api.Gram{}, api.ErrShort
	}
	n := word(b, 4)
	switch {
	case n < 8:
		return api.Gram{}, api.ErrForm
	case n > len(b):
		return api.Gram{}, api.ErrShort
	case word(b, 6) != 0 && (around(src, dst, n)+total(b[:n]))%65535 != 0:
		return api.Gram{}, api.ErrSum
	}
	return api.Gram{Src: uint16(word(b, 0)), Dst: uint16(word(b, 2)), Data: bytes.Clone(b[8:n])}, api.OK
}

// noise returns n bytes that follow no plain pattern, other ones for each seed.
func noise(n int, seed uint32) []byte {
	b := make([]byte, n)
	for i := range b {
		seed = seed*1664525 + 1013904223
		b[i] = byte(seed >> 24)
	}
	return b
}

// sent is a datagram with the addresses from which and to which it goes.
type sent struct {
	src, dst api.Addr
	g        api.Gram
}

// plain is a datagram no field of which is at an end, and no two of which are the same.
func plain() sent {
	return sent{0x12345678, 0x9abcdef1, api.Gram{Src: 0x2345, Dst: 0x6789, Data: []byte{9, 8, 7, 6, 5}}}
}

// with is the datagram of plain with one thing changed.
func with(change func(s *sent)) sent {
	s := plain()
	change(&s)
	return s
}

// carrying is the datagram of plain with n bytes of data of no plain pattern.
func carrying(n int) sent {
	return with(func(s *sent) { s.g.Data = noise(n, uint32(n)) })
}

// ends are datagrams of which each has one field or address at its least or its greatest, alone or with all the others.
func ends() []sent {
	all := []sent{
		{},
		plain(),
		{math.MaxUint32, math.MaxUint32, api.Gram{Src: 65535, Dst: 65535, Data: bytes.Repeat([]byte{255}, 65507)}},
		{math.MaxUint32, math.MaxUint32, api.Gram{Src: 65535, Dst: 65535, Data: bytes.Repeat([]byte{255}, 65506)}},
		{math.MaxUint32, math.MaxUint32, api.Gram{Src: 65535, Dst: 65535}},
		{0, 0, api.Gram{Data: make([]byte, 65507)}},
	}
	for _, change := range []func(s *sent){
		func(s *sent) { s.src = 0 },
		func(s *sent) { s.src = 0x0000ffff },
		func(s *sent) { s.src = 0xffff0000 },
		func(s *sent) { s.src = math.MaxUint32 },
		func(s *sent) { s.dst = 0 },
		func(s *sent) { s.dst = 0x0000ffff },
		func(s *sent) { s.dst = 0xffff0000 },
		func(s *sent) { s.dst = math.MaxUint32 },
		func(s *sent) { s.g.Src = 0 },
		func(s *sent) { s.g.Src = 0x00ff },
		func(s *sent) { s.g.Src = 0xff00 },
		func(s *sent) { s.g.Src = 65535 },
		func(s *sent) { s.g.Dst = 0 },
		func(s *sent) { s.g.Dst = 0x00ff },
		func(s *sent) { s.g.Dst = 0xff00 },
		func(s *sent) { s.g.Dst = 65535 },
		func(s *sent) { s.g.Data = nil },
		func(s *sent) { s.g.Data = []byte{} },
		func(s *sent) { s.g.Data = []byte{0} },
		func(s *sent) { s.g.Data = []byte{255} },
	} {
		all = append(all, with(change))
	}
	for _, n := range []int{2, 7, 247, 248, 1472, 65506, 65507} {
		all = append(all, carrying(n))
	}
	return all
}

// many are n datagrams of no plain pattern.
func many(n int) []sent {
	var all []sent
	for i := range n {
		b := noise(13, uint32(7919*i))
		all = append(all, sent{
			api.Addr(65536*word(b, 0) + word(b, 2)),
			api.Addr(65536*word(b, 4) + word(b, 6)),
			api.Gram{Src: uint16(word(b, 8)), Dst: uint16(word(b, 10)), Data: noise(int(b[12]), uint32(i))},
		})
	}
	return all
}

// zeroed is a datagram with the Src with which its checksum comes to 0.
func zeroed(s sent) sent {
	s.g.Src = 0
	b := untold(s.g)
	s.g.Src = uint16(65535 - folded(around(s.src, s.dst, len(b))+total(b)))
	return s
}

// equal compares datagrams, nil and empty slices being the same.
func equal(g, h api.Gram) bool {
	if len(g.Data) == 0 && len(h.Data) == 0 {
		g.Data, h.Data = nil, nil
	}
	return reflect.DeepEqual(g, h)
}

// few tells bytes, or the beginning of them.
func few(b []byte) []byte { return b[:min(len(b), 64)] }

// The chapter's example

func TestExample(t *testing.T) {
	want := []byte{0, 1, 0, 2, 0, 9, 0, 0, 9}
	if b, e := gram.Bare(api.Gram{Src: 1, Dst: 2, Data: []byte{9}}); !bytes.Equal(b, want) || e != api.OK {
		t.Errorf("Bare = % x, error %d; want % x", b, int(e), want)
	}
	if g, e := gram.Get(3, 4, want); !equal(g, api.Gram{Src: 1, Dst: 2, Data: []byte{9}}) || e != api.OK {
		t.Errorf("Get(% x) = %v, error %d", want, g, int(e))
	}
}

// P8.2: Ports

func TestPorts(t *testing.T) {
	all := []byte{1, 2, 3, 4, 5, 6, 7, 8, 9}
	for n := range len(all) + 1 {
		for _, b := range [][]byte{all[:n], bytes.Clone(all[:n])} { // what lies in the unused capacity is not read
			src, dst, e := gram.Ports(b)
			if n < 4 && (src != 0 || dst != 0 || e != api.ErrShort) {
				t.Errorf("Ports of %d bytes = %d, %d, error %d; want error %d", n, src, dst, int(e), int(api.ErrShort))
			}
			if n >= 4 && (src != 0x0102 || dst != 0x0304 || e != api.OK) {
				t.Errorf("Ports of %d bytes = %d, %d, error %d", n, src, dst, int(e))
			}
		}
	}
	if src, dst, e := gram.Ports(nil); src != 0 || dst != 0 || e != api.ErrShort {
		t.Errorf("Ports of nil = %d, %d, error %d", src, dst, int(e))
	}
	if _, _, e := gram.Ports(noise(100000, 1)); e != api.OK {
		t.Errorf("Ports of 100000 bytes: error %d", int(e))
	}
}

func TestPortsOfEachNumber(t *testing.T) {
	for n := range 65536 {
		m := 65535 - n/3
		src, dst, e := gram.Ports([]byte{byte(n / 256), byte(n % 256), byte(m / 256), byte(m % 256)})
		if int(src) != n || int(dst) != m || e != api.OK {
			t.Fatalf("Ports of %d and %d = %d, %d, error %d", n, m, src, dst, int(e))
		}
	}
}

// What Get would refuse has ports too.
func TestPortsOfWhatIsNoDatagram(t *testing.T) {
	for _, b := range [][]byte{
		{1, 2, 3, 4},                   // too short
		{1, 2, 3, 4, 0, 7, 0, 0},       // a length below 8
		{1, 2, 3, 4, 0, 9, 0, 0},       // a length that is too great
		{1, 2, 3, 4, 0, 8, 0, 1},       // a wrong checksum
		{1, 2, 3, 4, 255, 255, 255, 1}, // all of it
	} {
		if src, dst, e := gram.Ports(b); src != 0x0102 || dst != 0x0304 || e != api.OK {
			t.Errorf("Ports(% x) = %d, %d, error %d", b, src, dst, int(e))
		}
	}
}

func TestPortsOfWhatWasPut(t *testing.T) {
	for _, s := range append(ends(), many(300)...) {
		put, e := gram.Put(s.src, s.dst, s.g)
		bare, e2 := gram.Bare(s.g)
		if e != api.OK || e2 != api.OK {
			t.Fatalf("errors %d, %d", int(e), int(e2))
		}
		for _, b := range [][]byte{put, bare, put[:4]} {
			if src, dst, e := gram.Ports(b); src != s.g.Src || dst != s.g.Dst || e != api.OK {
				t.Errorf("Ports(% x) = %d, %d, error %d", few(b), src, dst, int(e))
			}
		}
	}
}

// P8.2: Same

func TestSame(t *testing.T) {
	g := plain().g
	same := plain().g
	if !gram.Same(g, same) || !gram.Same(g, g) || !gram.Same(api.Gram{}, api.Gram{}) {
		t.Error("the same are not Same")
	}
	for i, change := range []func(h *api.Gram){
		func(h *api.Gram) { h.Src++ },
		func(h *api.Gram) { h.Src ^= 0x8000 },
		func(h *api.Gram) { h.Src = 0 },
		func(h *api.Gram) { h.Dst++ },
		func(h *api.Gram) { h.Dst ^= 0x8000 },
		func(h *api.Gram) { h.Dst = 0 },
		func(h *api.Gram) { h.Src, h.Dst = h.Dst, h.Src },
		func(h *api.Gram) { h.Data = nil },
		func(h *api.Gram) { h.Data = []byte{} },
		func(h *api.Gram) { h.Data[0]++ },
		func(h *api.Gram) { h.Data[4]++ },
		func(h *api.Gram) { h.Data = h.Data[:4] },
		func(h *api.Gram) { h.Data = h.Data[1:] },
		func(h *api.Gram) { h.Data = append(h.Data, 0) },
		func(h *api.Gram) { h.Data[0], h.Data[1] = h.Data[1], h.Data[0] },
	} {
		h := plain().g
		change(&h)
		if gram.Same(g, h) || gram.Same(h, g) {
			t.Errorf("change %d: %v and %v are Same", i, g, h)
		}
		if !gram.Same(h, h) {
			t.Errorf("change %d: %v is not Same as itself", i, h)
		}
	}
}

func TestSameOfNilAndEmpty(t *testing.T) {
	none, empty, roomy := api.Gram{Src: 1}, api.Gram{Src: 1, Data: []byte{}}, api.Gram{Src: 1, Data: []byte{1, 2}[:0]}
	for _, g := range []api.Gram{none, empty, roomy} {
		for _, h := range []api.Gram{none, empty, roomy} {
			if !gram.Same(g, h) {
				t.Errorf("%v and %v are not Same", g, h)
			}
			h.Dst = 1
			if gram.Same(g, h) {
				t.Errorf("%v and %v are Same", g, h)
			}
			h.Dst, h.Data = 0, []byte{0}
			if gram.Same(g, h) || gram.Same(h, g) {
				t.Errorf("%v and %v are Same", g, h)
			}
		}
	}
}

// What lies in the unused capacity is no part of the data.
func TestSameOfOtherCapacity(t *testing.T) {
	g, h := api.Gram{Data: []byte{1, 2, 3}[:2]}, api.Gram{Data: []byte{1, 2, 4}[:2]}
	if !gram.Same(g, h) {
		t.Error("other bytes of the capacity make another datagram")
	}
}

// No limit is named for Same.
func TestSameOfLongData(t *testing.T) {
	for _, n := range []int{65507, 65508, 65536, 100001} {
		g, h := carrying(n).g, carrying(n).g
		if !gram.Same(g, h) {
			t.Errorf("%d bytes are not Same", n)
		}
		h.Data[n-1]++
		if gram.Same(g, h) {
			t.Errorf("%d bytes are Same, though the last one is not", n)
		}
	}
}
