package seg_test

import (
	"bytes"
	"math"
	"reflect"
	"testing"

	"towrope/api"
	"towrope/seg"
)

// total adds the words of b without bringing a carry round; a single last byte is the upper half of a word.
func total(b []byte) int {
	n := 0
	for i, c := range b {
		if i%2 == 0 {
			n += 256 * int(c)
		} else {
			n += int(c)
		}
	}
	return n
}

// around adds the words of the pseudo-header, told as numbers.
func around(src, dst api.Addr, length int) int {
	return int(src)/65536 + int(src)%65536 + int(dst)/65536 + int(dst)%65536 + 6 + length%65536
}

// word reads two bytes.
func word(b []byte, at int) int { return 256*int(b[at]) + int(b[at+1]) }

// set writes a word at index at.
func set(b []byte, at, n int) { b[at], b[at+1] = byte(n/256), byte(n%256) }

// right writes the checksum with which the segment b is right. The sum is never 0, for the protocol is not.
func right(src, dst api.Addr, b []byte) {
	set(b, 16, 0)
	set(b, 16, 65534-(around(src, dst, len(b))+total(b)-1)%65535)
}

// long tells the four bytes of a number.
func long(n uint32) []byte {
	return []byte{byte(n / 16777216), byte(n / 65536 % 256), byte(n / 256 % 256), byte(n % 256)}
}

// options writes the options of a segment, in another way than the program.
func options(s api.Seg) []byte {
	mss := []byte{2, 4, byte(s.Mss / 256), byte(s.Mss % 256)}
	scale := []byte{1, 3, 3, byte(s.Scale + 255)}
	switch {
	case s.Mss == 0 && s.Scale == 0:
		return nil
	case s.Scale == 0:
		return mss
	case s.Mss == 0:
		return scale
	}
	return append(mss, scale...)
}

// bare writes a segment with these options and the checksum 0, in another way than the program.
func bare(s api.Seg, opts []byte) []byte {
	b := []byte{byte(s.Src / 256), byte(s.Src % 256), byte(s.Dst / 256), byte(s.Dst % 256)}
	b = append(b, long(s.Seq)...)
	b = append(b, long(s.Ack)...)
	b = append(b, byte(80+4*len(opts)), s.Flags, byte(s.Win/256), byte(s.Win%256), 0, 0, 0, 0)
	b = append(b, opts...)
	return append(b, s.Data...)
}

// told writes a segment with its checksum.
func told(src, dst api.Addr, s api.Seg) []byte {
	b := bare(s, options(s))
	right(src, dst, b)
	return b
}

// parsed reads options in another way than the program: what is behind an option first. -1 stands for an option that is not there.
func parsed(opts []byte) (mss, scale int, ok bool) {
	switch {
	case len(opts) == 0 || opts[0] == 0:
		return -1, -1, true
	case opts[0] == 1:
		return parsed(opts[1:])
	case len(opts) == 1, opts[1] == 0, opts[1] == 1, int(opts[1]) > len(opts):
		return -1, -1, false
	case opts[0] == 2 && opts[1] != 4, opts[0] == 3 && opts[1] != 3:
		return -1, -1, false
	}
	mss, scale, ok = parsed(opts[opts[1]:])
	if opts[0] == 2 && mss == -1 {
		mss = word(opts, 2)
	}
	if opts[0] == 3 && scale == -1 {
		scale = int(opts[2]) + 1
	}
	return mss, scale, ok
}

// understood is parsed with the results that Read is to have.
func understood(opts []byte) (mss, scale int, e api.Errno) {
	mss, scale, ok := parsed(opts)
	if !ok {
		return 0, 0, api.ErrForm
	}
	return max(mss, 0), min(max(scale, 0), 15), api.OK
}

// heard reads a segment in another way than the program.
func heard(src, dst api.Addr, b []byte) (api.Seg, api.Errno) {
	if len(b) < 20 {
		return api.Seg{}, api.ErrShort
	}
	words := int(b[12]) / 16
	switch {
	case words < 5:
		return api.Seg{}, api.ErrForm
	case 4*words > len(b):
		return api.Seg{}, api.ErrShort
	case (around(src, dst, len(b))+total(b))%65535 != 0:
		return api.Seg{}, api.ErrSum
	}
	mss, scale, e := understood(b[20 : 4*words])
	if e != api.OK {
		return api.Seg{}, e
	}
	return api.Seg{
		Src: uint16(word(b, 0)), Dst: uint16(word(b, 2)),
		Seq: uint32(65536*word(b, 4) + word(b, 6)), Ack: uint32(65536*word(b, 8) + word(b, 10)),
		Flags: b[13] % 64, Win: uint16(word(b, 14)), Mss: mss, Scale: scale, Data: bytes.Clone(b[4*words:]),
	}, api.OK
}

// noise returns n bytes that follow no plain pattern, other ones for each seed.
func noise(n int, seed uint32) []byte {
	b := make([]byte, n)
	for i := range b {
		seed = seed*1664525 + 1013904223
		b[i] = byte(seed >> 24)
	}
	return b
}

// sent is a segment with the addresses from which and to which it goes.
type sent struct {
	src, dst api.Addr
	s        api.Seg
}

// plain is a segment no field of which is at an end, and no two of which are the same.
func plain() sent {
	return sent{0x12345678, 0x9abcdef1, api.Seg{
		Src: 0x2345, Dst: 0x6789, Seq: 0xabcdef01, Ack: 0x13579bdf,
		Flags: api.ACK | api.PSH, Win: 0x2468, Mss: 1460, Scale: 8, Data: []byte{9, 8, 7, 6, 5},
	}}
}

// with is the segment of plain with one thing changed.
func with(change func(s *sent)) sent {
	s := plain()
	change(&s)
	return s
}

// carrying is the segment of plain with other data, of n bytes.
func carrying(n int) sent {
	return with(func(s *sent) { s.s.Data = noise(n, uint32(n)) })
}

// ends are segments with fields at their least and their greatest, each alone and all at once.
func ends() []sent {
	l := []sent{
		{},
		{math.MaxUint32, math.MaxUint32, api.Seg{
			Src: 65535, Dst: 65535, Seq: math.MaxUint32, Ack: math.MaxUint32,
			Flags: 63, Win: 65535, Mss: 65535, Scale: 15, Data: bytes.Repeat([]byte{255}, 65455),
		}},
		plain(),
	}
	for _, change := range []func(s *sent){
		func(s *sent) { s.src = 0 },
		func(s *sent) { s.src = math.MaxUint32 },
		func(s *sent) { s.dst = 0 },
		func(s *sent) { s.dst = math.MaxUint32 },
		func(s *sent) { s.s.Src = 0 },
		func(s *sent) { s.s.Src = 1 },
		func(s *sent) { s.s.Src = 65535 },
		func(s *sent) { s.s.Dst = 0 },
		func(s *sent) { s.s.Dst = 1 },
		func(s *sent) { s.s.Dst = 65535 },
		func(s *sent) { s.s.Seq = 0 },
		func(s *sent) { s.s.Seq = 1 },
		func(s *sent) { s.s.Seq = math.MaxUint32 },
		func(s *sent) { s.s.Ack = 0 },
		func(s *sent) { s.s.Ack = 1 },
		func(s *sent) { s.s.Ack = math.MaxUint32 },
		func(s *sent) { s.s.Flags = 0 },
		func(s *sent) { s.s.Flags = 1 },
		func(s *sent) { s.s.Flags = 63 },
		func(s *sent) { s.s.Win = 0 },
		func(s *sent) { s.s.Win = 1 },
		func(s *sent) { s.s.Win = 65535 },
		func(s *sent) { s.s.Mss = 0 },
		func(s *sent) { s.s.Mss = 1 },
		func(s *sent) { s.s.Mss = 255 },
		func(s *sent) { s.s.Mss = 256 },
		func(s *sent) { s.s.Mss = 65535 },
		func(s *sent) { s.s.Scale = 0 },
		func(s *sent) { s.s.Scale = 1 },
		func(s *sent) { s.s.Scale = 14 },
		func(s *sent) { s.s.Scale = 15 },
		func(s *sent) { s.s.Mss, s.s.Scale = 0, 0 },
		func(s *sent) { s.s.Data = nil },
		func(s *sent) { s.s.Data = []byte{} },
		func(s *sent) { s.s.Data = []byte{0} },
		func(s *sent) { s.s.Data = []byte{255} },
		func(s *sent) { s.s.Data = noise(65454, 1) },
		func(s *sent) { s.s.Data = noise(65455, 2) },
	} {
		l = append(l, with(change))
	}
	return l
}

// many are n segments of all kinds with short data.
func many(n int) []sent {
	l := make([]sent, n)
	for i := range l {
		b := noise(30, uint32(i))
		at := func(k int) uint32 { return uint32(65536*word(b, k) + word(b, k+2)) }
		l[i] = sent{api.Addr(at(0)), api.Addr(at(4)), api.Seg{
			Src: uint16(at(8)), Dst: uint16(at(10)), Seq: at(12), Ack: at(16),
			Flags: b[20] % 64, Win: uint16(at(20)), Mss: word(b, 24) * (i % 2), Scale: int(b[26]) % 16 * (i / 2 % 2),
			Data: noise(int(b[27])%50, uint32(i)),
		}}
	}
	return l
}

// equal tells whether two segments are, without the program: nil and empty are.
func equal(s, t api.Seg) bool {
	if len(s.Data) == 0 && len(t.Data) == 0 {
		s.Data, t.Data = nil, nil
	}
	return reflect.DeepEqual(s, t)
}

// few tells bytes, or the beginning of them.
func few(b []byte) []byte { return b[:min(len(b), 64)] }

// brief is a segment with few bytes of its data, to be told.
func brief(s api.Seg) api.Seg {
	s.Data = few(s.Data)
	return s
}

// P9.1: Check

// checked fails unless Check answers this error, and Put too.
func checked(t *testing.T, what string, s api.Seg, want api.Errno) {
	t.Helper()
	if e := seg.Check(s); e != want {
		t.Errorf("%s: Check = error %d; want error %d", what, int(e), int(want))
	}
	b, e := seg.Put(1, 2, s)
	if e != want || (e == api.OK) != (len(b) > 0) {
		t.Errorf("%s: Put = % x, error %d; want error %d", what, few(b), int(e), int(want))
	}
}

func TestCheck(t *testing.T) {
	checked(t, "nothing", api.Seg{}, api.OK)
	for _, s := range append(ends(), many(300)...) {
		checked(t, "a segment", s.s, api.OK)
	}
}

func TestCheckOfFlags(t *testing.T) {
	for flags := range 256 {
		want := api.Errno(api.OK)
		if flags > 63 {
			want = api.ErrArg
		}
		checked(t, "flags", with(func(s *sent) { s.s.Flags = uint8(flags) }).s, want)
		checked(t, "flags alone", api.Seg{Flags: uint8(flags)}, want)
	}
}

func TestCheckOfMss(t *testing.T) {
	for _, n := range []int{0, 1, 87, 88, 535, 536, 1460, 32767, 32768, 65455, 65456, 65534, 65535} {
		checked(t, "mss", with(func(s *sent) { s.s.Mss = n }).s, api.OK)
		checked(t, "mss alone", api.Seg{Mss: n}, api.OK)
	}
	for _, n := range []int{-1, -2, -65535, -65536, 65536, 65537, 131072, math.MaxInt32, math.MinInt32, math.MaxInt, math.MinInt} {
		checked(t, "mss", with(func(s *sent) { s.s.Mss = n }).s, api.ErrArg)
		checked(t, "mss alone", api.Seg{Mss: n}, api.ErrArg)
	}
}

func TestCheckOfScale(t *testing.T) {
	for n := range 16 {
		checked(t, "scale", with(func(s *sent) { s.s.Scale = n }).s, api.OK)
		checked(t, "scale alone", api.Seg{Scale: n}, api.OK)
	}
	for _, n := range []int{-1, -2, -256, 16, 17, 255, 256, 257, 65536, math.MaxInt32, math.MinInt32, math.MaxInt, math.MinInt} {
		checked(t, "scale", with(func(s *sent) { s.s.Scale = n }).s, api.ErrArg)
		checked(t, "scale alone", api.Seg{Scale: n}, api.ErrArg)
	}
}

func TestCheckOfData(t *testing.T) {
	for _, n := range []int{0, 1, 2, 1000, 65000, 65454, 65455} {
		checked(t, "data", carrying(n).s, api.OK)
		checked(t, "data alone", api.Seg{Data: make([]byte, n)}, api.OK)
	}
	for _, n := range []int{65456, 65457, 65475, 65507, 65515, 65534, 65535, 65536, 131072, 1000000} {
		checked(t, "data", carrying(n).s, api.ErrLong)
		checked(t, "data alone", api.Seg{Data: make([]byte, n)}, api.ErrLong)
	}
	// Its capacity is not its length.
	checked(t, "data of a great capacity", api.Seg{Data: make([]byte, 65455, 70000)}, api.OK)
}

// Whether a segment may be hangs neither on how many numbers it takes nor on its options.
func TestCheckOfDataWithAllElse(t *testing.T) {
	for _, s := range []api.Seg{{}, {Flags: api.SYN | api.FIN}, {Mss: 1}, {Scale: 1}, {Flags: 63, Mss: 65535, Scale: 15}} {
		s.Data = make([]byte, 65455)
		checked(t, "the longest", s, api.OK)
		s.Data = make([]byte, 65456)
		checked(t, "longer by one", s, api.ErrLong)
	}
}

// ErrArg comes first: all faults combined with one another.
func TestCheckOfSeveralFaults(t *testing.T) {
	for _, flags := range []uint8{0, 63, 64, 255} {
		for _, mss := range []int{-1, 0, 65535, 65536} {
			for _, scale := range []int{-1, 0, 15, 16} {
				for _, n := range []int{0, 65455, 65456} {
					want := api.Errno(api.OK)
					if n > 65455 {
						want = api.ErrLong
					}
					if flags > 63 || mss < 0 || mss > 65535 || scale < 0 || scale > 15 {
						want = api.ErrArg
					}
					checked(t, "several faults", api.Seg{Flags: flags, Mss: mss, Scale: scale, Data: make([]byte, n)}, want)
				}
			}
		}
	}
}

// P9.1: Len

func TestLen(t *testing.T) {
	for _, n := range []int{0, 1, 2, 1000, 65455, 65456, 100000} {
		data := make([]byte, n)
		for flags := range 256 {
			want := n + flags%2 + flags/2%2
			if got := seg.Len(api.Seg{Flags: uint8(flags), Data: data}); got != want {
				t.Errorf("Len of %d bytes with the flags %d = %d; want %d", n, flags, got, want)
			}
		}
	}
}

// Nothing but the data and two of the flags takes numbers.
func TestLenOfAllElse(t *testing.T) {
	s := api.Seg{Src: 1, Dst: 2, Seq: math.MaxUint32, Ack: 4, Win: 5, Mss: 1460, Scale: 7}
	for _, c := range []struct {
		flags uint8
		n     int
		want  int
	}{
		{0, 0, 0}, {api.RST | api.PSH | api.ACK | api.URG, 0, 0}, {api.SYN, 0, 1}, {api.FIN, 0, 1}, {api.SYN | api.FIN, 0, 2},
		{0, 3, 3}, {api.RST | api.PSH | api.ACK | api.URG, 3, 3}, {api.SYN | api.ACK, 3, 4}, {api.FIN | api.ACK, 3, 4}, {63, 3, 5},
	} {
		s.Flags, s.Data = c.flags, make([]byte, c.n, c.n+9)
		if got := seg.Len(s); got != c.want {
			t.Errorf("Len of %v = %d; want %d", s, got, c.want)
		}
	}
	if got := seg.Len(api.Seg{}); got != 0 {
		t.Errorf("Len of nothing = %d", got)
	}
}

// P9.3: Same

func TestSame(t *testing.T) {
	s, same := plain().s, plain().s
	if !seg.Same(s, same) || !seg.Same(s, s) || !seg.Same(api.Seg{}, api.Seg{}) {
		t.Error("the same are not Same")
	}
	for i, change := range []func(s *api.Seg){
		func(s *api.Seg) { s.Src++ },
		func(s *api.Seg) { s.Src ^= 0x8000 },
		func(s *api.Seg) { s.Src = 0 },
		func(s *api.Seg) { s.Dst++ },
		func(s *api.Seg) { s.Dst ^= 0x8000 },
		func(s *api.Seg) { s.Dst = 0 },
		func(s *api.Seg) { s.Src, s.Dst = s.Dst, s.Src },
		func(s *api.Seg) { s.Seq++ },
		func(s *api.Seg) { s.Seq ^= 1 << 31 },
		func(s *api.Seg) { s.Seq = 0 },
		func(s *api.Seg) { s.Ack++ },
		func(s *api.Seg) { s.Ack ^= 1 << 31 },
		func(s *api.Seg) { s.Ack = 0 },
		func(s *api.Seg) { s.Seq, s.Ack = s.Ack, s.Seq },
		func(s *api.Seg) { s.Flags ^= 1 },
		func(s *api.Seg) { s.Flags ^= 32 },
		func(s *api.Seg) { s.Flags ^= 64 },
		func(s *api.Seg) { s.Flags ^= 128 },
		func(s *api.Seg) { s.Flags = 0 },
		func(s *api.Seg) { s.Win++ },
		func(s *api.Seg) { s.Win ^= 0x8000 },
		func(s *api.Seg) { s.Win = 0 },
		func(s *api.Seg) { s.Mss++ },
		func(s *api.Seg) { s.Mss += 65536 },
		func(s *api.Seg) { s.Mss = -s.Mss },
		func(s *api.Seg) { s.Mss = 0 },
		func(s *api.Seg) { s.Scale++ },
		func(s *api.Seg) { s.Scale += 256 },
		func(s *api.Seg) { s.Scale = -s.Scale },
		func(s *api.Seg) { s.Scale = 0 },
		func(s *api.Seg) { s.Data = nil },
		func(s *api.Seg) { s.Data = []byte{} },
		func(s *api.Seg) { s.Data[0]++ },
		func(s *api.Seg) { s.Data[4]++ },
		func(s *api.Seg) { s.Data = s.Data[:4] },
		func(s *api.Seg) { s.Data = s.Data[1:] },
		func(s *api.Seg) { s.Data = append(s.Data, 0) },
		func(s *api.Seg) { s.Data[0], s.Data[1] = s.Data[1], s.Data[0] },
	} {
		other := plain().s
		change(&other)
		if seg.Same(s, other) || seg.Same(other, s) {
			t.Errorf("change %d: %v and %v are Same", i, s, other)
		}
		if !seg.Same(other, other) {
			t.Errorf("change %d: %v is not Same as itself", i, other)
		}
	}
}

func TestSameOfNilAndEmpty(t *testing.T) {
	for _, b := range [][]byte{nil, {}, []byte{1, 2}[:0]} {
		for _, c := range [][]byte{nil, {}, []byte{1, 2}[:0]} {
			s, u := api.Seg{Seq: 1, Data: b}, api.Seg{Seq: 1, Data: c}
			if !seg.Same(s, u) {
				t.Errorf("%v and %v are not Same", s, u)
			}
			u.Ack = 1
			if seg.Same(s, u) {
				t.Errorf("%v and %v are Same", s, u)
			}
			u.Ack, u.Data = 0, []byte{0}
			if seg.Same(s, u) || seg.Same(u, s) {
				t.Errorf("%v and %v are Same", s, u)
			}
		}
	}
}

// What lies in the unused capacity is no part of the data.
func TestSameOfOtherCapacity(t *testing.T) {
	s, u := api.Seg{Data: []byte{1, 2, 3}[:2]}, api.Seg{Data: []byte{1, 2, 4}[:2]}
	if !seg.Same(s, u) {
		t.Error("other bytes of the capacity make another segment")
	}
}

// No limit is named for Same: what Check refuses is the same as itself.
func TestSameOfWhatMayNotBe(t *testing.T) {
	for _, n := range []int{65455, 65456, 100001} {
		s, u := carrying(n).s, carrying(n).s
		s.Flags, u.Flags, s.Mss, u.Mss, s.Scale, u.Scale = 255, 255, -1, -1, 99, 99
		if !seg.Same(s, u) {
			t.Errorf("%d bytes are not Same", n)
		}
		u.Data[n-1]++
		if seg.Same(s, u) {
			t.Errorf("%d bytes are Same, though the last one is not", n)
		}
	}
}
