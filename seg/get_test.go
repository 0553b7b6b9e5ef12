package seg_test

import (
	"bytes"
	"math"
	"testing"

	"towrope/api"
	"towrope/seg"
)

// refused fails unless Get answers this error of b, and nothing beside it.
func refused(t *testing.T, what string, src, dst api.Addr, b []byte, want api.Errno) {
	t.Helper()
	if s, e := seg.Get(src, dst, b); !equal(s, api.Seg{}) || e != want {
		t.Errorf("%s: Get(% x) = %v, error %d; want error %d", what, few(b), brief(s), int(e), int(want))
	}
}

// got fails unless Get answers this segment of b.
func got(t *testing.T, what string, src, dst api.Addr, b []byte, want api.Seg) {
	t.Helper()
	if s, e := seg.Get(src, dst, b); !equal(s, want) || e != api.OK {
		t.Errorf("%s: Get(% x) = %v, error %d; want %v", what, few(b), brief(s), int(e), brief(want))
	}
}

// shaped is a segment with these options, whatever they are, in as many words as they take, and with its checksum.
func shaped(src, dst api.Addr, s api.Seg, opts []byte) []byte {
	b := bare(s, opts)
	right(src, dst, b)
	return b
}

// P9.3: Get

func TestGet(t *testing.T) {
	got(t, "nothing", 0, 0, []byte{0, 0, 0, 0, 0, 0, 0, 0, 0, 0, 0, 0, 0x50, 0, 0, 0, 0xaf, 0xe5, 0, 0}, api.Seg{})
	got(t, "no data", 0x00010002, 0x00030004,
		[]byte{0, 5, 0, 6, 0, 7, 0, 8, 0, 9, 0, 10, 0x50, 11, 0, 12, 0xaf, 0x97, 0, 0},
		api.Seg{Src: 5, Dst: 6, Seq: 0x00070008, Ack: 0x0009000a, Flags: 0x0b, Win: 0x0c})
	got(t, "options and data", 0, 0,
		[]byte{1, 2, 3, 4, 5, 6, 7, 8, 9, 10, 11, 12, 0x70, 0x12, 0x0e, 0x0f, 0x33, 0x5f, 0, 0, 2, 4, 0x11, 0x12, 1, 3, 3, 4, 0x13, 0x14},
		api.Seg{Src: 0x0102, Dst: 0x0304, Seq: 0x05060708, Ack: 0x090a0b0c, Flags: 0x12, Win: 0x0e0f, Mss: 0x1112, Scale: 5, Data: []byte{0x13, 0x14}})
	got(t, "a byte", 0, 0, []byte{0, 0, 0, 0, 0, 0, 0, 0, 0, 0, 0, 0, 0x50, 0, 0, 0, 0xae, 0xe4, 0, 0, 1}, api.Seg{Data: []byte{1}})
	got(t, "a checksum of 0", 0, 0, []byte{0xaf, 0xe5, 0, 0, 0, 0, 0, 0, 0, 0, 0, 0, 0x50, 0, 0, 0, 0, 0, 0, 0}, api.Seg{Src: 0xafe5})
	got(t, "65535 in place of 0", 0, 0, []byte{0xaf, 0xe5, 0, 0, 0, 0, 0, 0, 0, 0, 0, 0, 0x50, 0, 0, 0, 0xff, 0xff, 0, 0}, api.Seg{Src: 0xafe5})
}

func TestGetOfFieldsAtTheirEnds(t *testing.T) {
	for _, s := range append(ends(), many(2000)...) {
		got(t, "told", s.src, s.dst, told(s.src, s.dst, s.s), s.s)
	}
}

func TestGetOfEachNumber(t *testing.T) {
	for n := range 65536 {
		s := with(func(s *sent) {
			s.s.Src, s.s.Dst, s.s.Win = uint16(n), uint16(65535-n/3), uint16(n*7)
			s.s.Seq, s.s.Ack = uint32(n)*65537, uint32(n)*2654435761
			s.s.Mss, s.s.Scale, s.s.Flags = n, n%16, uint8(n%64)
		})
		got(t, "numbers", s.src, s.dst, told(s.src, s.dst, s.s), s.s)
	}
}

func TestGetOfFewBytes(t *testing.T) {
	refused(t, "nil", 1, 2, nil, api.ErrShort)
	refused(t, "empty", 1, 2, []byte{}, api.ErrShort)
	s := plain()
	for _, whole := range [][]byte{
		told(s.src, s.dst, s.s),
		told(s.src, s.dst, api.Seg{}),
		make([]byte, 30), // of no words
		bytes.Repeat([]byte{0x40}, 30),
		bytes.Repeat([]byte{0x50}, 30),
		bytes.Repeat([]byte{0xff}, 30),
	} {
		for n := range 20 {
			refused(t, "cut off", s.src, s.dst, whole[:n], api.ErrShort) // what lies in the unused capacity is not read
			cut := bytes.Clone(whole[:n])
			refused(t, "cut off", s.src, s.dst, cut, api.ErrShort)
			if n > 17 {
				right(s.src, s.dst, cut)
				refused(t, "cut off, with a right checksum", s.src, s.dst, cut, api.ErrShort)
			}
		}
	}
}

// Each byte that counts the words, of few bytes and of many, with a right checksum and with a wrong one. The lowest four bits of it are ignored, but by the checksum.
func TestGetOfEachNumberOfWords(t *testing.T) {
	for n := range 256 {
		for _, has := range []int{20, 21, 23, 24, 27, 28, 40, 56, 57, 59, 60, 61, 90} {
			b := append(noise(20, uint32(n)), bytes.Repeat([]byte{1}, has-20)...)
			b[12] = byte(n)
			right(7, 8, b)
			bad := bytes.Clone(b)
			set(bad, 16, (word(b, 16)+1)%65535)
			switch words := n / 16; {
			case words < 5:
				refused(t, "few words", 7, 8, b, api.ErrForm)
				refused(t, "few words and a wrong checksum", 7, 8, bad, api.ErrForm)
			case 4*words > has:
				refused(t, "many words", 7, 8, b, api.ErrShort)
				refused(t, "many words and a wrong checksum", 7, 8, bad, api.ErrShort)
			default:
				want, e := heard(7, 8, b)
				if e != api.OK || len(want.Data) != has-4*words {
					t.Fatalf("% x is %v, error %d", b, want, int(e))
				}
				got(t, "words", 7, 8, b, want)
				refused(t, "a wrong checksum", 7, 8, bad, api.ErrSum)
			}
		}
	}
}

func TestGetOfWordsThatAreNotThere(t *testing.T) {
	for words := 5; words < 16; words++ {
		opts := bytes.Repeat([]byte{1}, 4*words-20)
		whole := bare(plain().s, opts)[:4*words]
		right(1, 2, whole)
		s := plain().s
		s.Mss, s.Scale, s.Data = 0, 0, nil
		got(t, "all words", 1, 2, whole, s)
		for has := 20; has < 4*words; has++ {
			refused(t, "cut off", 1, 2, whole[:has], api.ErrShort)
			cut := bytes.Clone(whole[:has])
			right(1, 2, cut)
			refused(t, "cut off, with a right checksum", 1, 2, cut, api.ErrShort)
		}
	}
}

func TestGetOfEachChecksum(t *testing.T) {
	for _, s := range []sent{
		{},
		plain(),
		carrying(40),
		{0, 0, api.Seg{Src: 0xafe5}}, // the checksum is 0
		{math.MaxUint32, math.MaxUint32, api.Seg{Src: 65535, Dst: 65535, Data: []byte{255}}},
	} {
		b := bare(s.s, options(s.s))
		rest := around(s.src, s.dst, len(b)) + total(b)
		rightOnes := 0
		for n := range 65536 {
			set(b, 16, n)
			if (rest+n)%65535 == 0 {
				rightOnes++
				got(t, "the right checksum", s.src, s.dst, b, s.s)
				continue
			}
			if x, e := seg.Get(s.src, s.dst, b); !equal(x, api.Seg{}) || e != api.ErrSum {
				t.Fatalf("Get(% x): error %d; want error %d", b, int(e), int(api.ErrSum))
			}
		}
		want := 1
		if rest%65535 == 0 {
			want = 2 // 0, and 65535 in place of it
		}
		if rightOnes != want {
			t.Errorf("%d checksums are right; want %d", rightOnes, want)
		}
	}
}

// Each bit that is turned makes the checksum wrong, but where there are too few words or too many.
func TestGetOfABitTurned(t *testing.T) {
	for _, s := range []sent{{}, plain(), carrying(31), {1, 2, api.Seg{Mss: 1}}, {1, 2, api.Seg{Scale: 1, Data: []byte{1}}}} {
		b := told(s.src, s.dst, s.s)
		for i := range 8 * len(b) {
			b[i/8] ^= 1 << (i % 8)
			want := api.Errno(api.ErrSum)
			if words := int(b[12]) / 16; words < 5 {
				want = api.ErrForm
			} else if 4*words > len(b) {
				want = api.ErrShort
			}
			refused(t, "a bit turned", s.src, s.dst, b, want)
			b[i/8] ^= 1 << (i % 8)
		}
		got(t, "as it was", s.src, s.dst, b, s.s)
	}
}

func TestGetOfOtherAddresses(t *testing.T) {
	for _, s := range many(200) {
		b := told(s.src, s.dst, s.s)
		for bit := range 32 {
			refused(t, "another source", s.src^1<<bit, s.dst, b, api.ErrSum)
			refused(t, "another destination", s.src, s.dst^1<<bit, b, api.ErrSum)
		}
		// A sum does not tell what was added first.
		got(t, "turned round", s.dst, s.src, b, s.s)
	}
}

// The segment is all of b: what is behind it is data, and it is added up.
func TestGetOfBytesBehind(t *testing.T) {
	for n := range 12 {
		s := carrying(n)
		b := told(s.src, s.dst, s.s)
		for _, behind := range [][]byte{{0}, {1}, {0, 0}, {1, 2}, {1, 2, 3}, noise(300, 1)} {
			more := append(bytes.Clone(b), behind...)
			refused(t, "bytes behind", s.src, s.dst, more, api.ErrSum)
			right(s.src, s.dst, more)
			want := s.s
			want.Data = append(bytes.Clone(s.s.Data), behind...)
			got(t, "bytes behind, with a right checksum", s.src, s.dst, more, want)
		}
		for cut := range n {
			refused(t, "cut off", s.src, s.dst, b[:28+cut], api.ErrSum)
		}
	}
}

// The urgent pointer, the bits beside the words and the bits above the flags are ignored, but by the checksum.
func TestGetOfWhatIsIgnored(t *testing.T) {
	for _, s := range []sent{{}, plain(), carrying(31)} {
		b := told(s.src, s.dst, s.s)
		for n := range 65536 {
			set(b, 18, n)
			right(s.src, s.dst, b)
			if x, e := seg.Get(s.src, s.dst, b); !equal(x, s.s) || e != api.OK {
				t.Fatalf("the urgent pointer %d: Get(% x) = %v, error %d", n, few(b), brief(x), int(e))
			}
		}
		for low := range 16 {
			for flags := range 256 {
				b := told(s.src, s.dst, s.s)
				b[12] += byte(low)
				b[13] = byte(flags)
				if 256*low+flags != int(s.s.Flags) {
					refused(t, "bits that were not added up", s.src, s.dst, b, api.ErrSum)
				}
				want := s.s
				want.Flags = uint8(flags % 64)
				right(s.src, s.dst, b)
				got(t, "bits", s.src, s.dst, b, want)
				set(b, 18, 65535-256*low-flags)
				right(s.src, s.dst, b)
				got(t, "bits and an urgent pointer", s.src, s.dst, b, want)
			}
		}
	}
}

// Options that no segment of Put has: in each number of words, right ones and wrong ones.
func TestGetOfOtherOptions(t *testing.T) {
	const src, dst = 0x0a000001, 0x0a000002
	for _, c := range []struct {
		opts       []byte
		mss, scale int
	}{
		{[]byte{0, 0, 0, 0}, 0, 0},
		{[]byte{1, 1, 1, 1}, 0, 0},
		{[]byte{0, 2, 9, 255}, 0, 0},
		{[]byte{1, 1, 1, 0}, 0, 0},
		{[]byte{2, 4, 0, 0}, 0, 0},
		{[]byte{3, 3, 7, 0}, 0, 8},
		{[]byte{3, 3, 7, 1}, 0, 8},
		{[]byte{3, 3, 14, 0}, 0, 15},
		{[]byte{3, 3, 15, 0}, 0, 15},
		{[]byte{3, 3, 255, 0}, 0, 15},
		{[]byte{4, 2, 1, 1}, 0, 0},
		{[]byte{9, 4, 2, 4}, 0, 0},
		{[]byte{3, 3, 7, 2, 4, 5, 0xb4, 0}, 1460, 8},
		{[]byte{2, 4, 0, 1, 2, 4, 0, 2}, 2, 0},
		{[]byte{2, 4, 0, 1, 2, 4, 0, 0}, 0, 0},
		{[]byte{3, 3, 7, 3, 3, 5, 1, 1}, 0, 6},
		{[]byte{2, 4, 5, 0xb4, 4, 2, 8, 10, 1, 2, 3, 4, 5, 6, 7, 8, 1, 3, 3, 7}, 1460, 8},
		{append([]byte{9, 36}, append(make([]byte, 34), 2, 4, 0, 3)...), 3, 0},
	} {
		for _, n := range []int{0, 1, 2, 9} {
			s := carrying(n).s
			b := shaped(src, dst, s, c.opts)
			s.Mss, s.Scale = c.mss, c.scale
			got(t, "other options", src, dst, b, s)
		}
	}
	for _, opts := range [][]byte{
		{1, 1, 1, 2},
		{1, 1, 1, 3},
		{1, 1, 1, 255},
		{2, 0, 1, 1},
		{2, 1, 1, 1},
		{2, 2, 1, 1},
		{2, 3, 1, 1},
		{2, 5, 1, 1},
		{3, 2, 1, 1},
		{3, 4, 1, 1},
		{9, 0, 1, 1},
		{9, 1, 1, 1},
		{9, 5, 1, 1},
		{9, 255, 1, 1},
		{1, 2, 4, 1},
		{1, 1, 3, 3},
		{2, 4, 5, 0xb4, 3, 3, 7, 2},
		{2, 4, 5, 0xb4, 2, 4, 5, 0xb4, 9, 5, 0, 0},
		{3, 3, 7, 1, 1, 1, 1, 9},
	} {
		// An option that extends beyond the options, even if there is enough of the data.
		for _, n := range []int{0, 1, 2, 300} {
			b := shaped(src, dst, carrying(n).s, opts)
			refused(t, "wrong options", src, dst, b, api.ErrForm)
			set(b, 16, (word(b, 16)+1)%65535)
			refused(t, "wrong options and a wrong checksum", src, dst, b, api.ErrSum)
			refused(t, "wrong options, cut off", src, dst, b[:19+len(opts)], api.ErrShort)
		}
	}
}

// What stands behind the options is data, even if it looks like options.
func TestGetOfDataLikeOptions(t *testing.T) {
	for _, data := range [][]byte{{2, 4, 5, 0xb4}, {3, 3, 7}, {2, 4, 5, 0xb4, 1, 3, 3, 7}, {2, 0}, {2}, {9, 255}, {0}, {1}} {
		for _, s := range []api.Seg{{Data: data}, {Mss: 7, Data: data}, {Scale: 3, Data: data}, {Mss: 7, Scale: 3, Data: data}} {
			got(t, "data like options", 1, 2, told(1, 2, s), s)
		}
	}
}

// No greatest length is named for Get: what Put would not write is read. Of the length the pseudo-header has two bytes.
func TestGetOfLongData(t *testing.T) {
	for _, n := range []int{65454, 65455, 65456, 65487, 65507, 65508, 65515, 65516, 65535, 65536, 70000, 131072, 200001} {
		s := carrying(n)
		b := told(s.src, s.dst, s.s)
		got(t, "long", s.src, s.dst, b, s.s)
		refused(t, "long and cut off", s.src, s.dst, b[:len(b)-2], api.ErrSum)
		b[len(b)-1]++
		refused(t, "long with another byte", s.src, s.dst, b, api.ErrSum)
	}
}

// Which error comes first: all faults combined with one another.
func TestGetOfSeveralFaults(t *testing.T) {
	for has := 0; has < 36; has++ {
		for words := range 16 {
			for _, opts := range [][]byte{{2, 4, 5, 0xb4}, {2, 3, 5, 0xb4}, {1, 1, 1, 9}} {
				for wrong := range 2 {
					b := append(noise(20, uint32(has)), append(opts, bytes.Repeat([]byte{1}, 12)...)...)[:has]
					if has > 12 {
						b[12] = byte(16 * words)
					}
					if has > 17 {
						right(1, 2, b)
						set(b, 16, (word(b, 16)+wrong)%65535)
					}
					var want api.Errno
					switch {
					case has < 20:
						want = api.ErrShort
					case words < 5:
						want = api.ErrForm
					case has < 4*words:
						want = api.ErrShort
					case wrong > 0:
						want = api.ErrSum
					case words > 5 && opts[1] != 4:
						// The third one is wrong in any number of words: what follows its kind is the length 1, or nothing.
						want = api.ErrForm
					}
					if want != api.OK {
						refused(t, "several faults", 1, 2, b, want)
						continue
					}
					s, _ := heard(1, 2, b)
					got(t, "no fault", 1, 2, b, s)
				}
			}
		}
	}
}

// Any bytes, taken as segments of any addresses.
func TestAnyBytes(t *testing.T) {
	count := map[api.Errno]int{}
	for i := range 60000 {
		b := noise(i%70, uint32(i))
		src, dst := api.Addr(uint32(i)*2654435761), api.Addr(uint32(i)*40503)
		if len(b) > 19 && i%5 != 0 {
			b[12] = byte(16 * (4 + i/5%(len(b)/4-2))) // from below 5 words to beyond the end
			for at := 20; at < len(b) && i%3 != 0; at++ {
				b[at] %= 6 // so that some of the options are right
			}
			if i%7 != 0 {
				right(src, dst, b)
			}
		}
		s, e := seg.Get(src, dst, b)
		want, e2 := heard(src, dst, b)
		if e != e2 || !equal(s, want) {
			t.Fatalf("Get(% x) = %v, error %d; want %v, error %d", b, s, int(e), want, int(e2))
		}
		count[e]++
		if e != api.OK {
			continue
		}
		again, e := seg.Put(src, dst, s)
		if x, e2 := seg.Get(src, dst, again); e != api.OK || e2 != api.OK || !equal(x, s) {
			t.Fatalf("written again, % x is % x, errors %d, %d", b, again, int(e), int(e2))
		}
	}
	for _, e := range []api.Errno{api.OK, api.ErrShort, api.ErrForm, api.ErrSum} {
		if count[e] < 1000 {
			t.Errorf("too few of error %d: %d", int(e), count[e])
		}
	}
}

// P9.4

func TestGetReturnsWhatWasPut(t *testing.T) {
	for _, s := range append(ends(), many(3000)...) {
		b, e := seg.Put(s.src, s.dst, s.s)
		x, e2 := seg.Get(s.src, s.dst, b)
		if e != api.OK || e2 != api.OK || !equal(x, s.s) || !seg.Same(x, s.s) || seg.Len(x) != seg.Len(s.s) {
			t.Fatalf("% x: %v, errors %d, %d; want %v", few(b), brief(x), int(e), int(e2), brief(s.s))
		}
		again, e := seg.Put(s.src, s.dst, x)
		if e != api.OK || !bytes.Equal(again, b) || seg.Check(x) != api.OK {
			t.Fatalf("put again, % x is % x, error %d", few(b), few(again), int(e))
		}
	}
}

func TestGetReturnsEachMssScaleAndFlag(t *testing.T) {
	for n := range 65536 {
		for _, scale := range []int{0, 1 + n%15} {
			s := api.Seg{Src: 1, Dst: 2, Flags: uint8(n % 64), Mss: n, Scale: scale, Data: []byte{1, 2, 3}[:n%4]}
			b, e := seg.Put(3, 4, s)
			if x, e2 := seg.Get(3, 4, b); e != api.OK || e2 != api.OK || !equal(x, s) {
				t.Fatalf("% x: %v, errors %d, %d; want %v", b, x, int(e), int(e2), s)
			}
		}
	}
}
