package seg_test

import (
	"bytes"
	"math"
	"testing"

	"towrope/api"
	"towrope/seg"
)

// written fails unless Put answers the bytes that are told in another way.
func written(t *testing.T, s sent) {
	t.Helper()
	want := told(s.src, s.dst, s.s)
	if b, e := seg.Put(s.src, s.dst, s.s); !bytes.Equal(b, want) || e != api.OK {
		t.Errorf("Put of %v = % x, error %d; want % x", brief(s.s), few(b), int(e), few(want))
	}
}

// P9.3: Put

func TestPut(t *testing.T) {
	for _, c := range []struct {
		s    sent
		want []byte
	}{
		// 6, the length and the byte of the words are all that is added up.
		{sent{}, []byte{0, 0, 0, 0, 0, 0, 0, 0, 0, 0, 0, 0, 0x50, 0, 0, 0, 0xaf, 0xe5, 0, 0}},
		{sent{0, 0, api.Seg{Mss: 1}}, []byte{0, 0, 0, 0, 0, 0, 0, 0, 0, 0, 0, 0, 0x60, 0, 0, 0, 0x9d, 0xdc, 0, 0, 2, 4, 0, 1}},
		{sent{0, 0, api.Seg{Scale: 1}}, []byte{0, 0, 0, 0, 0, 0, 0, 0, 0, 0, 0, 0, 0x60, 0, 0, 0, 0x9b, 0xde, 0, 0, 1, 3, 3, 0}},
		{sent{0, 0, api.Seg{Mss: 1460, Scale: 8}}, []byte{0, 0, 0, 0, 0, 0, 0, 0, 0, 0, 0, 0, 0x70, 0, 0, 0, 0x84, 0x1b, 0, 0, 2, 4, 5, 0xb4, 1, 3, 3, 7}},
		{sent{0, 0, api.Seg{Data: []byte{1}}}, []byte{0, 0, 0, 0, 0, 0, 0, 0, 0, 0, 0, 0, 0x50, 0, 0, 0, 0xae, 0xe4, 0, 0, 1}},
		{sent{0, 0, api.Seg{Data: []byte{1, 2, 3}}}, []byte{0, 0, 0, 0, 0, 0, 0, 0, 0, 0, 0, 0, 0x50, 0, 0, 0, 0xab, 0xe0, 0, 0, 1, 2, 3}},
		{
			sent{0x00010002, 0x00030004, api.Seg{Src: 5, Dst: 6, Seq: 0x00070008, Ack: 0x0009000a, Flags: 0x0b, Win: 0x0c}},
			[]byte{0, 5, 0, 6, 0, 7, 0, 8, 0, 9, 0, 10, 0x50, 11, 0, 12, 0xaf, 0x97, 0, 0},
		},
		{
			sent{0, 0, api.Seg{Src: 0x0102, Dst: 0x0304, Seq: 0x05060708, Ack: 0x090a0b0c, Flags: 0x12, Win: 0x0e0f, Mss: 0x1112, Scale: 5, Data: []byte{0x13, 0x14}}},
			[]byte{1, 2, 3, 4, 5, 6, 7, 8, 9, 10, 11, 12, 0x70, 0x12, 0x0e, 0x0f, 0x33, 0x5f, 0, 0, 2, 4, 0x11, 0x12, 1, 3, 3, 4, 0x13, 0x14},
		},
		// The checksum comes to 0, and is not written otherwise. And to 1, and to 65534: the neighbours of it.
		{sent{0, 0, api.Seg{Src: 0xafe5}}, []byte{0xaf, 0xe5, 0, 0, 0, 0, 0, 0, 0, 0, 0, 0, 0x50, 0, 0, 0, 0, 0, 0, 0}},
		{sent{0, 0, api.Seg{Src: 0xafe4}}, []byte{0xaf, 0xe4, 0, 0, 0, 0, 0, 0, 0, 0, 0, 0, 0x50, 0, 0, 0, 0, 1, 0, 0}},
		{sent{0, 0, api.Seg{Src: 0xafe6}}, []byte{0xaf, 0xe6, 0, 0, 0, 0, 0, 0, 0, 0, 0, 0, 0x50, 0, 0, 0, 0xff, 0xfe, 0, 0}},
	} {
		if b, e := seg.Put(c.s.src, c.s.dst, c.s.s); !bytes.Equal(b, c.want) || e != api.OK {
			t.Errorf("Put of %v = % x, error %d; want % x", c.s, b, int(e), c.want)
		}
	}
}

func TestPutOfFieldsAtTheirEnds(t *testing.T) {
	for _, s := range append(ends(), many(2000)...) {
		written(t, s)
	}
}

func TestPutOfEachNumber(t *testing.T) {
	for n := range 65536 {
		s := with(func(s *sent) {
			s.s.Src, s.s.Dst, s.s.Win = uint16(n), uint16(65535-n/3), uint16(n*7)
			s.s.Seq, s.s.Ack = uint32(n)*65537, uint32(n)*2654435761
			s.s.Mss, s.s.Scale, s.s.Flags = n, n%16, uint8(n%64)
		})
		if b, e := seg.Put(s.src, s.dst, s.s); !bytes.Equal(b, told(s.src, s.dst, s.s)) || e != api.OK {
			t.Fatalf("Put of %v = % x, error %d; want % x", s.s, b, int(e), told(s.src, s.dst, s.s))
		}
	}
}

func TestPutOfEachBit(t *testing.T) {
	for bit := range 32 {
		for _, s := range []sent{
			with(func(s *sent) { s.src ^= 1 << bit }),
			with(func(s *sent) { s.dst ^= 1 << bit }),
			with(func(s *sent) { s.s.Seq ^= 1 << bit }),
			with(func(s *sent) { s.s.Ack ^= 1 << bit }),
			with(func(s *sent) { s.s.Src ^= 1 << (bit % 16) }),
			with(func(s *sent) { s.s.Dst ^= 1 << (bit % 16) }),
			with(func(s *sent) { s.s.Win ^= 1 << (bit % 16) }),
			with(func(s *sent) { s.s.Flags ^= 1 << (bit % 6) }),
		} {
			written(t, s)
			b, _ := seg.Put(s.src, s.dst, s.s)
			p := plain()
			if bytes.Equal(b, told(p.src, p.dst, p.s)) {
				t.Errorf("bit %d makes no other bytes", bit)
			}
		}
	}
}

func TestPutOfEachLength(t *testing.T) {
	for n := range 600 {
		for _, s := range []sent{carrying(n), {1, 2, api.Seg{Data: noise(n, 1)}}, {1, 2, api.Seg{Mss: n, Data: noise(n, 1)}}} {
			written(t, s)
		}
	}
}

func TestPutOfLongData(t *testing.T) {
	for _, n := range []int{32768, 65000, 65453, 65454, 65455} {
		for _, s := range []sent{
			carrying(n),
			with(func(s *sent) { s.s.Data = noise(70000, 1)[:n] }), // its capacity is not its length
			{math.MaxUint32, math.MaxUint32, api.Seg{Data: bytes.Repeat([]byte{255}, n)}},
		} {
			written(t, s)
		}
	}
}

// The length stands in the pseudo-header alone: with two bytes more of 0 the checksum is less by 2.
func TestPutCountsTheLength(t *testing.T) {
	for n := 0; n < 100; n += 2 {
		one, _ := seg.Put(1, 2, api.Seg{Data: make([]byte, n)})
		two, _ := seg.Put(1, 2, api.Seg{Data: make([]byte, n+2)})
		if word(one, 16)-word(two, 16) != 2 {
			t.Errorf("%d bytes: % x and % x", n, few(one), few(two))
		}
	}
}

// The checksum takes every value but 65535, 0 among them.
func TestPutOfEachChecksum(t *testing.T) {
	seen := map[int]bool{}
	for n := range 65536 {
		s := api.Seg{Src: uint16(n)}
		b, e := seg.Put(0, 0, s)
		if !bytes.Equal(b, told(0, 0, s)) || e != api.OK {
			t.Fatalf("Put of %v = % x, error %d; want % x", s, b, int(e), told(0, 0, s))
		}
		seen[word(b, 16)] = true
	}
	if len(seen) != 65535 || seen[65535] {
		t.Error("not all checksums, or 65535 among them:", len(seen))
	}
}

// Put writes the options of Options behind its header, and the data behind them.
func TestPutWritesOptions(t *testing.T) {
	for _, s := range append(ends(), many(500)...) {
		b, e := seg.Put(s.src, s.dst, s.s)
		opts := seg.Options(s.s)
		if e != api.OK || len(b) != 20+len(opts)+len(s.s.Data) || int(b[12]) != 16*(5+len(opts)/4) {
			t.Fatalf("Put of %v = % x, error %d", brief(s.s), few(b), int(e))
		}
		if !bytes.Equal(b[20:20+len(opts)], opts) || !bytes.Equal(b[20+len(opts):], s.s.Data) {
			t.Errorf("Put of %v = % x; its options are % x", brief(s.s), few(b), opts)
		}
	}
}
