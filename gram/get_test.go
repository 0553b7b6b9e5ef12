package gram_test

import (
	"bytes"
	"math"
	"testing"

	"towrope/api"
	"towrope/gram"
)

// refused fails unless Get answers this error of b, and nothing beside it.
func refused(t *testing.T, what string, src, dst api.Addr, b []byte, want api.Errno) {
	t.Helper()
	if g, e := gram.Get(src, dst, b); !equal(g, api.Gram{}) || e != want {
		t.Errorf("%s: Get(% x) = %d, %d, % x, error %d; want error %d", what, few(b), g.Src, g.Dst, few(g.Data), int(e), int(want))
	}
}

// got fails unless Get answers this datagram of b.
func got(t *testing.T, what string, src, dst api.Addr, b []byte, want api.Gram) {
	t.Helper()
	if g, e := gram.Get(src, dst, b); !equal(g, want) || e != api.OK {
		t.Errorf("%s: Get(% x) = %d, %d, % x, error %d", what, few(b), g.Src, g.Dst, few(g.Data), int(e))
	}
}

// P8.2: Get

func TestGet(t *testing.T) {
	got(t, "nothing but a length", 0, 0, []byte{0, 0, 0, 0, 0, 8, 0, 0}, api.Gram{})
	got(t, "nothing but a length and a checksum", 0, 0, []byte{0, 0, 0, 0, 0, 8, 0xff, 0xde}, api.Gram{})
	got(t, "no data", 1, 2, []byte{0, 3, 0, 4, 0, 8, 0xff, 0xd4}, api.Gram{Src: 3, Dst: 4})
	got(t, "addresses of two words", 0x10002, 0x30004, []byte{0, 5, 0, 6, 0, 8, 0xff, 0xc9}, api.Gram{Src: 5, Dst: 6})
	got(t, "a byte", 0, 0, []byte{0, 1, 0, 2, 0, 9, 0xf6, 0xd9, 9}, api.Gram{Src: 1, Dst: 2, Data: []byte{9}})
	got(t, "three bytes", 0, 0, []byte{0, 1, 0, 2, 0, 11, 0xef, 0xcd, 9, 8, 7}, api.Gram{Src: 1, Dst: 2, Data: []byte{9, 8, 7}})
	got(t, "three bytes without a checksum", 5, 6, []byte{1, 2, 3, 4, 0, 11, 0, 0, 5, 6, 7}, api.Gram{Src: 0x0102, Dst: 0x0304, Data: []byte{5, 6, 7}})
	got(t, "a checksum in place of 0", 0, 0, []byte{0xff, 0xde, 0, 0, 0, 8, 0xff, 0xff}, api.Gram{Src: 0xffde})
}

func TestGetOfFieldsAtTheirEnds(t *testing.T) {
	for _, s := range append(ends(), many(1000)...) {
		got(t, "with a checksum", s.src, s.dst, told(s.src, s.dst, s.g), s.g)
		got(t, "without a checksum", s.src, s.dst, untold(s.g), s.g)
	}
}

func TestGetOfFewBytes(t *testing.T) {
	refused(t, "nil", 1, 2, nil, api.ErrShort)
	refused(t, "empty", 1, 2, []byte{}, api.ErrShort)
	s := plain()
	for _, whole := range [][]byte{
		told(s.src, s.dst, s.g),
		untold(s.g),
		make([]byte, 8), // of a length below 8
		{1, 2, 3, 4, 0, 3, 9, 9},
		{1, 2, 3, 4, 0, 0, 0, 0},
		{1, 2, 3, 4, 255, 255, 255, 255},
		bytes.Repeat([]byte{255}, 20),
	} {
		for n := range 8 {
			refused(t, "cut off", s.src, s.dst, whole[:n], api.ErrShort) // what lies in the unused capacity is not read
			refused(t, "cut off", s.src, s.dst, bytes.Clone(whole[:n]), api.ErrShort)
			refused(t, "cut off, of no addresses", 0, 0, whole[:n], api.ErrShort)
		}
	}
}

// lengthed is bytes of which the length field says n.
func lengthed(has, n int) []byte {
	b := noise(has, uint32(n))
	set(b, 4, n)
	return b
}

// Each length field, of few bytes and of many: without a checksum, with a wrong one and with one that is right.
func TestGetOfEachLengthField(t *testing.T) {
	const src, dst = 0x0a000001, 0x0a000002
	for _, has := range []int{8, 9, 10, 11, 200} {
		for n := range 65536 {
			b := lengthed(has, n)
			short := b[:min(max(n, 8), has)]
			want := api.Errno(api.OK)
			if n < 8 {
				want = api.ErrForm
			} else if n > has {
				want = api.ErrShort
			}
			set(b, 6, 0)
			none := bytes.Clone(b)
			right(src, dst, short)
			good := bytes.Clone(b)
			set(b, 6, word(b, 6)%65535+1)
			bad := b
			if want != api.OK {
				for _, b := range [][]byte{none, good, bad} {
					if g, e := gram.Get(src, dst, b); !equal(g, api.Gram{}) || e != want {
						t.Fatalf("%d bytes, the length field %d: error %d; want error %d", has, n, int(e), int(want))
					}
				}
				continue
			}
			g := api.Gram{Src: uint16(word(b, 0)), Dst: uint16(word(b, 2)), Data: short[8:]}
			got(t, "no checksum", src, dst, none, g)
			got(t, "the right checksum", src, dst, good, g)
			refused(t, "a wrong checksum", src, dst, bad, api.ErrSum)
		}
	}
}

// Cut from what was put, at each length: there are fewer bytes than the length field says.
func TestGetOfBytesCutOff(t *testing.T) {
	for _, n := range []int{0, 1, 2, 3, 50, 65507} {
		s := carrying(n)
		for _, whole := range [][]byte{told(s.src, s.dst, s.g), untold(s.g)} {
			for _, has := range []int{8, 9, 8 + n/2, 8 + n - 2, 8 + n - 1} {
				if has < 8 || has >= 8+n {
					continue
				}
				refused(t, "cut off", s.src, s.dst, whole[:has], api.ErrShort)
				refused(t, "cut off", s.src, s.dst, bytes.Clone(whole[:has]), api.ErrShort)
			}
			got(t, "whole", s.src, s.dst, whole, s.g)
		}
	}
}

func TestGetOfAWrongChecksum(t *testing.T) {
	for _, s := range []sent{
		{},
		plain(),
		zeroed(plain()),
		zeroed(carrying(4)),
		carrying(40),
		{math.MaxUint32, math.MaxUint32, api.Gram{Src: 65535, Dst: 65535, Data: []byte{255}}},
	} {
		b := untold(s.g)
		rest := around(s.src, s.dst, len(b)) + total(b)
		rightOnes := 0
		for n := range 65536 {
			set(b, 6, n)
			if n == 0 {
				got(t, "no checksum", s.src, s.dst, b, s.g)
				continue
			}
			if folded(rest+n) == 65535 {
				rightOnes++
				got(t, "the right checksum", s.src, s.dst, b, s.g)
				continue
			}
			if g, e := gram.Get(s.src, s.dst, b); !equal(g, api.Gram{}) || e != api.ErrSum {
				t.Fatalf("Get(% x): error %d; want error %d", b, int(e), int(api.ErrSum))
			}
		}
		if rightOnes != 1 {
			t.Errorf("%d checksums are right", rightOnes)
		}
	}
}

// Each bit that is turned, but those of the length, makes the checksum wrong.
func TestGetOfABitTurned(t *testing.T) {
	for _, s := range []sent{{}, plain(), zeroed(plain()), carrying(31)} {
		b := told(s.src, s.dst, s.g)
		for i := range 8 * len(b) {
			if at := i / 8; at == 4 || at == 5 {
				continue
			}
			b[i/8] ^= 1 << (i % 8)
			if word(b, 6) != 0 {
				refused(t, "a bit turned", s.src, s.dst, b, api.ErrSum)
			}
			b[i/8] ^= 1 << (i % 8)
		}
	}
}

// Other addresses make the checksum wrong, and change nothing where there is none.
func TestGetOfOtherAddresses(t *testing.T) {
	for _, s := range append(ends(), many(100)...) {
		b, bare := told(s.src, s.dst, s.g), untold(s.g)
		for bit := range 32 {
			refused(t, "another source", s.src^1<<bit, s.dst, b, api.ErrSum)
			refused(t, "another destination", s.src, s.dst^1<<bit, b, api.ErrSum)
			got(t, "another source", s.src^1<<bit, s.dst, bare, s.g)
			got(t, "another destination", s.src, s.dst^1<<bit, bare, s.g)
		}
		// A sum does not tell what was added first.
		got(t, "turned round", s.dst, s.src, b, s.g)
	}
}

// What follows the length is neither read nor added, not even next to an odd byte.
func TestGetOfBytesBehind(t *testing.T) {
	for n := range 20 {
		for _, s := range []sent{carrying(n), {1, 2, carrying(n).g}, zeroed(carrying(n))} {
			b, bare := told(s.src, s.dst, s.g), untold(s.g)
			for _, behind := range [][]byte{{0}, {1}, {255}, {0, 0}, {1, 2}, {1, 2, 3}, {255, 255, 255, 255}, noise(300, 1), noise(70000, 2)} {
				got(t, "bytes behind", s.src, s.dst, append(bytes.Clone(b), behind...), s.g)
				got(t, "bytes behind, without a checksum", s.src, s.dst, append(bytes.Clone(bare), behind...), s.g)
				bad := append(bytes.Clone(b), behind...)
				bad[0]++
				refused(t, "bytes behind a wrong one", s.src, s.dst, bad, api.ErrSum)
			}
		}
	}
}

// A checksum that is right over all the bytes, or with their number in the pseudo-header, is wrong if the length field says less.
func TestGetOfAChecksumOverMore(t *testing.T) {
	for n := range 20 {
		s := carrying(n)
		for _, behind := range [][]byte{{1}, {1, 2}, {9, 9, 9}, {0, 0}, {0, 0, 0}} {
			b := append(untold(s.g), behind...)
			right(s.src, s.dst, b)
			refused(t, "over all bytes", s.src, s.dst, b, api.ErrSum)
			// The bytes alone, with the number of all of them.
			set(b, 6, 0)
			set(b, 6, 65535-folded(around(s.src, s.dst, len(b))+total(b[:8+n])))
			refused(t, "with the number of all bytes", s.src, s.dst, b, api.ErrSum)
		}
	}
}

// No limit but that of the length field is named for Get: what Put would not write is read.
func TestGetOfLongData(t *testing.T) {
	for _, n := range []int{65506, 65507, 65508, 65516, 65526, 65527} {
		s := carrying(n)
		b := told(s.src, s.dst, s.g)
		got(t, "long", s.src, s.dst, b, s.g)
		got(t, "long, with a byte behind", s.src, s.dst, append(bytes.Clone(b), 1), s.g)
		got(t, "long, without a checksum", s.src, s.dst, untold(s.g), s.g)
		refused(t, "long and cut off", s.src, s.dst, b[:len(b)-1], api.ErrShort)
		b[len(b)-1]++
		refused(t, "long with another byte", s.src, s.dst, b, api.ErrSum)
	}
}

// Which error comes first: all faults combined with one another.
func TestGetOfSeveralFaults(t *testing.T) {
	for has := range 14 {
		for n := range 16 {
			for check := range 3 {
				b := noise(16, uint32(has))
				set(b, 4, n)
				set(b, 6, 0)
				if check > 0 {
					right(1, 2, b[:max(n, 8)])
				}
				if check > 1 {
					set(b, 6, word(b, 6)%65535+1)
				}
				b = b[:has]
				var want api.Errno
				switch {
				case has < 8:
					want = api.ErrShort
				case n < 8:
					want = api.ErrForm
				case has < n:
					want = api.ErrShort
				case check == 2:
					want = api.ErrSum
				}
				if want != api.OK {
					refused(t, "several faults", 1, 2, b, want)
					continue
				}
				got(t, "no fault", 1, 2, b, api.Gram{Src: uint16(word(b, 0)), Dst: uint16(word(b, 2)), Data: b[8:n]})
			}
		}
	}
}

// Any bytes, taken as datagrams of any addresses.
func TestAnyBytes(t *testing.T) {
	count := map[api.Errno]int{}
	for i := range 60000 {
		b := noise(i%40, uint32(i))
		src, dst := api.Addr(uint32(i)*2654435761), api.Addr(uint32(i)*40503)
		if len(b) > 7 && i%5 != 0 {
			n := 5 + i/5%(len(b)-2) // from below 8 to beyond the end
			set(b, 4, n)
			if i%3 == 0 {
				set(b, 6, 0)
			}
			if i%3 == 1 {
				right(src, dst, b[:min(max(n, 8), len(b))])
			}
		}
		g, e := gram.Get(src, dst, b)
		want, e2 := heard(src, dst, b)
		if e != e2 || !equal(g, want) {
			t.Fatalf("Get(% x) = %v, error %d; want %v, error %d", b, g, int(e), want, int(e2))
		}
		count[e]++
		if e != api.OK {
			continue
		}
		again, e := gram.Put(src, dst, g)
		if word(b, 6) == 0 {
			again, e = gram.Bare(g)
		}
		if e != api.OK || !bytes.Equal(again, b[:word(b, 4)]) {
			t.Fatalf("written again, % x is % x, error %d", b, again, int(e))
		}
	}
	for _, e := range []api.Errno{api.OK, api.ErrShort, api.ErrForm, api.ErrSum} {
		if count[e] < 1000 {
			t.Errorf("too few of error %d: %d", int(e), count[e])
		}
	}
}

// P8.3

func TestGetReturnsWhatWasPut(t *testing.T) {
	for _, s := range append(ends(), many(3000)...) {
		b, e := gram.Put(s.src, s.dst, s.g)
		bare, e2 := gram.Bare(s.g)
		g, e3 := gram.Get(s.src, s.dst, b)
		h, e4 := gram.Get(s.src, s.dst, bare)
		if e != api.OK || e2 != api.OK || e3 != api.OK || e4 != api.OK || !equal(g, s.g) || !equal(h, s.g) || !gram.Same(g, s.g) || !gram.Same(g, h) {
			t.Fatalf("% x, % x: errors %d, %d, %d, %d", few(b), few(bare), int(e), int(e2), int(e3), int(e4))
		}
	}
}

// replaced fails unless Get tells that a word of the data was replaced after Put, but for 0 and 65535.
func replaced(t *testing.T, s sent, at, now int) {
	t.Helper()
	b, e := gram.Put(s.src, s.dst, s.g)
	if e != api.OK {
		t.Fatalf("Put: error %d", int(e))
	}
	was := word(b, 8+at)
	set(b, 8+at, now)
	if was != now && was%65535 != now%65535 {
		if g, e := gram.Get(s.src, s.dst, b); !equal(g, api.Gram{}) || e != api.ErrSum {
			t.Fatalf("%d in place of %d at %d: Get(% x): error %d; want error %d", now, was, at, few(b), int(e), int(api.ErrSum))
		}
		return
	}
	// The sum of what was replaced is the same, and it is never 0: Get answers it as it is.
	want := s.g
	want.Data = bytes.Clone(s.g.Data)
	set(want.Data, at, now)
	got(t, "replaced by as much", s.src, s.dst, b, want)
}

func TestGetOfAWordReplaced(t *testing.T) {
	for _, was := range []int{0, 1, 2, 255, 256, 0x1234, 0x7fff, 0x8000, 65533, 65534, 65535} {
		s := with(func(s *sent) { set(s.g.Data, 2, was) })
		for now := range 65536 {
			replaced(t, s, 2, now)
		}
	}
}

func TestGetOfAWordReplacedAtEachPlace(t *testing.T) {
	for _, n := range []int{2, 3, 4, 5, 30, 31} {
		for _, s := range []sent{
			carrying(n),
			zeroed(carrying(n)),
			{0, 0, api.Gram{Data: make([]byte, n)}},
			{math.MaxUint32, math.MaxUint32, api.Gram{Src: 65535, Dst: 65535, Data: bytes.Repeat([]byte{255}, n)}},
		} {
			for at := 0; at+1 < n; at += 2 {
				for i := range 600 {
					replaced(t, s, at, i*109%65536)
				}
				for _, now := range []int{0, 1, 255, 256, 0x8000, 65534, 65535} {
					replaced(t, s, at, now)
				}
			}
		}
	}
	for _, n := range []int{65506, 65507} {
		for _, at := range []int{0, 2, 32000, 65504} {
			for _, now := range []int{0, 1, 65534, 65535} {
				replaced(t, carrying(n), at, now)
			}
		}
	}
}

// Without a checksum nothing tells that a word was replaced.
func TestGetOfAWordReplacedWithoutAChecksum(t *testing.T) {
	for _, n := range []int{2, 3, 30} {
		s := carrying(n)
		b, _ := gram.Bare(s.g)
		for now := range 65536 {
			set(b, 8, now)
			if g, e := gram.Get(s.src, s.dst, b); !equal(g, api.Gram{Src: s.g.Src, Dst: s.g.Dst, Data: b[8:]}) || e != api.OK {
				t.Fatalf("Get(% x) = %v, error %d", b, g, int(e))
			}
		}
	}
}
