package gram_test

import (
	"bytes"
	"math"
	"testing"

	"towrope/api"
	"towrope/gram"
)

// written fails unless Put and Bare answer the bytes that are told in another way.
func written(t *testing.T, s sent) {
	t.Helper()
	if b, e := gram.Put(s.src, s.dst, s.g); !bytes.Equal(b, told(s.src, s.dst, s.g)) || e != api.OK {
		t.Errorf("Put = % x, error %d; want % x", few(b), int(e), few(told(s.src, s.dst, s.g)))
	}
	if b, e := gram.Bare(s.g); !bytes.Equal(b, untold(s.g)) || e != api.OK {
		t.Errorf("Bare = % x, error %d; want % x", few(b), int(e), few(untold(s.g)))
	}
}

// P8.1: Put

func TestPut(t *testing.T) {
	for _, c := range []struct {
		s    sent
		want []byte
	}{
		// 17 and the length twice are all that is added up.
		{sent{}, []byte{0, 0, 0, 0, 0, 8, 0xff, 0xde}},
		{sent{1, 2, api.Gram{Src: 3, Dst: 4}}, []byte{0, 3, 0, 4, 0, 8, 0xff, 0xd4}},
		{sent{0x10002, 0x30004, api.Gram{Src: 5, Dst: 6}}, []byte{0, 5, 0, 6, 0, 8, 0xff, 0xc9}},
		{sent{0, 0, api.Gram{Src: 1, Dst: 2, Data: []byte{9}}}, []byte{0, 1, 0, 2, 0, 9, 0xf6, 0xd9, 9}},
		{sent{0, 0, api.Gram{Src: 1, Dst: 2, Data: []byte{9, 8}}}, []byte{0, 1, 0, 2, 0, 10, 0xf6, 0xcf, 9, 8}},
		{sent{0, 0, api.Gram{Src: 1, Dst: 2, Data: []byte{9, 8, 7}}}, []byte{0, 1, 0, 2, 0, 11, 0xef, 0xcd, 9, 8, 7}},
		{sent{math.MaxUint32, math.MaxUint32, api.Gram{Src: 65535, Dst: 65535}}, []byte{255, 255, 255, 255, 0, 8, 0xff, 0xde}},
		// The checksum comes to 0.
		{sent{0, 0, api.Gram{Src: 0xffde}}, []byte{0xff, 0xde, 0, 0, 0, 8, 0xff, 0xff}},
		// And to 1, and to 65534: the neighbours of it.
		{sent{0, 0, api.Gram{Src: 0xffdd}}, []byte{0xff, 0xdd, 0, 0, 0, 8, 0, 1}},
		{sent{0, 0, api.Gram{Src: 0xffdf}}, []byte{0xff, 0xdf, 0, 0, 0, 8, 0xff, 0xfe}},
	} {
		if b, e := gram.Put(c.s.src, c.s.dst, c.s.g); !bytes.Equal(b, c.want) || e != api.OK {
			t.Errorf("Put of %v = % x, error %d; want % x", c.s, b, int(e), c.want)
		}
	}
}

func TestPutAndBareOfFieldsAtTheirEnds(t *testing.T) {
	for _, s := range append(ends(), many(1000)...) {
		written(t, s)
	}
}

func TestPutAndBareOfEachPort(t *testing.T) {
	for n := range 65536 {
		s := with(func(s *sent) { s.g.Src, s.g.Dst = uint16(n), uint16(65535-n/3) })
		b, e := gram.Put(s.src, s.dst, s.g)
		bare, e2 := gram.Bare(s.g)
		if !bytes.Equal(b, told(s.src, s.dst, s.g)) || !bytes.Equal(bare, untold(s.g)) || e != api.OK || e2 != api.OK {
			t.Fatalf("of %v: % x and % x, errors %d, %d", s.g, b, bare, int(e), int(e2))
		}
	}
}

func TestPutAndBareOfEachLength(t *testing.T) {
	for n := range 600 {
		written(t, carrying(n))
	}
}

// Each bit of the addresses counts in Put, and none of them in Bare, which is not given them.
func TestPutOfEachBitOfTheAddresses(t *testing.T) {
	for bit := range 32 {
		for _, s := range []sent{
			with(func(s *sent) { s.src ^= 1 << bit }),
			with(func(s *sent) { s.dst ^= 1 << bit }),
		} {
			written(t, s)
			b, _ := gram.Put(s.src, s.dst, s.g)
			if c := told(plain().src, plain().dst, plain().g); bytes.Equal(b, c) {
				t.Errorf("bit %d makes no other checksum", bit)
			}
		}
	}
}

func TestPutAndBareOfLongData(t *testing.T) {
	for _, n := range []int{65505, 65506, 65507} {
		written(t, carrying(n))
		b, _ := gram.Put(1, 2, carrying(n).g)
		bare, _ := gram.Bare(carrying(n).g)
		if len(b) != n+8 || len(bare) != n+8 || word(b, 4) != n+8 || word(bare, 4) != n+8 {
			t.Errorf("Put and Bare of %d bytes: %d and %d bytes", n, len(b), len(bare))
		}
	}
	for _, n := range []int{65508, 65509, 65515, 65516, 65527, 65528, 65535, 65536, 131072, 1000000} {
		for _, s := range []sent{carrying(n), {0, 0, api.Gram{Data: make([]byte, n)}}} {
			if b, e := gram.Put(s.src, s.dst, s.g); len(b) != 0 || e != api.ErrLong {
				t.Errorf("Put of %d bytes: %d bytes, error %d; want error %d", n, len(b), int(e), int(api.ErrLong))
			}
			if b, e := gram.Bare(s.g); len(b) != 0 || e != api.ErrLong {
				t.Errorf("Bare of %d bytes: %d bytes, error %d; want error %d", n, len(b), int(e), int(api.ErrLong))
			}
		}
	}
	// Its capacity is not its length.
	short := with(func(s *sent) { s.g.Data = noise(70000, 1)[:65507] })
	written(t, short)
}

// The checksum takes every value but 0.
func TestPutOfEachChecksum(t *testing.T) {
	seen := map[int]bool{}
	for n := range 65536 {
		g := api.Gram{Src: uint16(n)}
		b, e := gram.Put(0, 0, g)
		if !bytes.Equal(b, told(0, 0, g)) || e != api.OK {
			t.Fatalf("Put of %v = % x, error %d; want % x", g, b, int(e), told(0, 0, g))
		}
		seen[word(b, 6)] = true
	}
	if len(seen) != 65535 || seen[0] {
		t.Error("not all checksums, or 0 among them:", len(seen))
	}
}

func TestPutOfAChecksumOf0(t *testing.T) {
	for n := range 40 {
		for _, s := range []sent{
			zeroed(carrying(n)),
			zeroed(sent{0, 0, carrying(n).g}),
			zeroed(sent{math.MaxUint32, math.MaxUint32, carrying(n).g}),
		} {
			b, e := gram.Put(s.src, s.dst, s.g)
			if !bytes.Equal(b, told(s.src, s.dst, s.g)) || word(b, 6) != 65535 || e != api.OK {
				t.Errorf("Put = % x, error %d; want % x", b, int(e), told(s.src, s.dst, s.g))
			}
			written(t, s)
		}
	}
}

// The length stands in the pseudo-header too: with two bytes more of 0 the checksum is less by 4.
func TestPutCountsTheLengthTwice(t *testing.T) {
	for n := 0; n < 100; n += 2 {
		one, _ := gram.Put(1, 2, api.Gram{Data: make([]byte, n)})
		two, _ := gram.Put(1, 2, api.Gram{Data: make([]byte, n+2)})
		if word(one, 6)-word(two, 6) != 4 {
			t.Errorf("%d bytes: % x and % x", n, few(one), few(two))
		}
	}
}

// P8.1: Bare

func TestBare(t *testing.T) {
	for _, c := range []struct {
		g    api.Gram
		want []byte
	}{
		{api.Gram{}, []byte{0, 0, 0, 0, 0, 8, 0, 0}},
		{api.Gram{Src: 0x0102, Dst: 0x0304}, []byte{1, 2, 3, 4, 0, 8, 0, 0}},
		{api.Gram{Src: 0x0102, Dst: 0x0304, Data: []byte{5, 6, 7}}, []byte{1, 2, 3, 4, 0, 11, 0, 0, 5, 6, 7}},
		{api.Gram{Src: 65535, Dst: 65535, Data: []byte{255}}, []byte{255, 255, 255, 255, 0, 9, 0, 0, 255}},
	} {
		if b, e := gram.Bare(c.g); !bytes.Equal(b, c.want) || e != api.OK {
			t.Errorf("Bare of %v = % x, error %d; want % x", c.g, b, int(e), c.want)
		}
	}
}

func TestBareIsPutButForTheChecksum(t *testing.T) {
	for _, s := range append(ends(), many(300)...) {
		b, e := gram.Put(s.src, s.dst, s.g)
		bare, e2 := gram.Bare(s.g)
		if e != api.OK || e2 != api.OK || word(bare, 6) != 0 || word(b, 6) == 0 {
			t.Fatalf("Put = % x, Bare = % x, errors %d, %d", few(b), few(bare), int(e), int(e2))
		}
		set(b, 6, 0)
		if !bytes.Equal(b, bare) {
			t.Errorf("Put = % x, Bare = % x", few(b), few(bare))
		}
	}
}
