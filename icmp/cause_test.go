package icmp_test

import (
	"bytes"
	"math"
	"reflect"
	"testing"

	"towrope/api"
	"towrope/icmp"
	"towrope/ip"
)

// samePacket compares packets, nil and empty slices being the same.
func samePacket(p, q api.IP) bool {
	if len(p.Opts) == 0 && len(q.Opts) == 0 {
		p.Opts, q.Opts = nil, nil
	}
	if len(p.Data) == 0 && len(q.Data) == 0 {
		p.Data, q.Data = nil, nil
	}
	return reflect.DeepEqual(p, q)
}

// caused fails unless Cause answers this packet of an error message with this Data, of each kind.
func caused(t *testing.T, what string, data []byte, want api.IP) {
	t.Helper()
	for _, kind := range []uint8{3, 11} {
		if p, e := icmp.Cause(api.Icmp{Type: kind, Code: 1, Data: data}); !samePacket(p, want) || e != api.OK {
			t.Errorf("%s: Cause of % x = %v, error %d; want %v", what, few(data), p, int(e), want)
		}
	}
}

// unknown fails unless Cause answers this error of an error message with this Data, of each kind, and nothing beside it.
func unknown(t *testing.T, what string, data []byte, want api.Errno) {
	t.Helper()
	for _, kind := range []uint8{3, 11} {
		if p, e := icmp.Cause(api.Icmp{Type: kind, Code: 1, Data: data}); !samePacket(p, api.IP{}) || e != want {
			t.Errorf("%s: Cause of % x = %v, error %d; want error %d", what, few(data), p, int(e), int(want))
		}
	}
}

// beginning is a header with one word of options, and 8 bytes behind it: no two of its fields are the same, and neither its length nor its checksum is right.
func beginning() []byte {
	return []byte{0x46, 1, 2, 3, 4, 5, 0x46, 7, 8, 9, 10, 11, 12, 13, 14, 15, 16, 17, 18, 19, 20, 21, 22, 23, 24, 25, 26, 27, 28, 29, 30, 31}
}

// begun is the packet that begins so.
func begun() api.IP {
	return api.IP{Tos: 1, Ident: 0x0405, Whole: true, Off: 0x0607, TTL: 8, Proto: 9, Src: 0x0c0d0e0f, Dst: 0x10111213,
		Opts: []byte{20, 21, 22, 23}, Data: []byte{24, 25, 26, 27, 28, 29, 30, 31}}
}

// P7.2: About

// kept is how many bytes of a packet About keeps.
func kept(packet []byte) int {
	head := 20
	if len(packet) > 0 && packet[0]%16 > 5 {
		head = int(packet[0]%16) * 4
	}
	if head+8 > len(packet) {
		return len(packet)
	}
	return head + 8
}

func TestAboutOfFewBytes(t *testing.T) {
	all := noise(60, 1)
	all[0] = 0x45
	for _, c := range []struct{ has, want int }{
		{0, 0}, {1, 1}, {2, 2}, {19, 19}, {20, 20}, {21, 21}, {27, 27}, {28, 28}, {29, 28}, {30, 28}, {60, 28},
	} {
		for _, packet := range [][]byte{all[:c.has], bytes.Clone(all[:c.has])} {
			m := icmp.About(3, 1, packet)
			if !equal(m, api.Icmp{Type: 3, Code: 1, Data: all[:c.want]}) {
				t.Errorf("About of %d bytes: % x", c.has, told(m))
			}
		}
	}
	if m := icmp.About(11, 0, nil); !equal(m, api.Icmp{Type: 11}) {
		t.Errorf("About of nil: % x", told(m))
	}
	// The first byte of a long header lies in the unused capacity: it is not read.
	if m := icmp.About(11, 0, bytes.Repeat([]byte{0x4f}, 100)[:0]); !equal(m, api.Icmp{Type: 11}) {
		t.Errorf("About of no byte: % x", told(m))
	}
}

func TestAboutOfEachFirstByteAndLength(t *testing.T) {
	for first := range 256 {
		all := noise(200, uint32(first))
		all[0] = byte(first)
		for n := range len(all) + 1 {
			packet := all[:n]
			m := icmp.About(11, 1, packet)
			if !equal(m, api.Icmp{Type: 11, Code: 1, Data: packet[:kept(packet)]}) {
				t.Fatalf("About of %d bytes, the first %x: %d bytes; want %d", n, first, len(m.Data), kept(packet))
			}
		}
	}
}

func TestAboutOfEachHeader(t *testing.T) {
	for low, want := range []int{28, 28, 28, 28, 28, 28, 32, 36, 40, 44, 48, 52, 56, 60, 64, 68} {
		for high := range 16 {
			packet := noise(100, 5)
			packet[0] = byte(16*high + low)
			if m := icmp.About(3, 3, packet); !bytes.Equal(m.Data, packet[:want]) {
				t.Errorf("About of 100 bytes, the first %x: %d bytes; want %d", packet[0], len(m.Data), want)
			}
			if m := icmp.About(3, 3, packet[:want]); !bytes.Equal(m.Data, packet[:want]) {
				t.Errorf("About of %d bytes, the first %x: %d bytes", want, packet[0], len(m.Data))
			}
			if m := icmp.About(3, 3, packet[:want-1]); !bytes.Equal(m.Data, packet[:want-1]) {
				t.Errorf("About of %d bytes, the first %x: %d bytes", want-1, packet[0], len(m.Data))
			}
		}
	}
}

func TestAboutOfEachKindAndCode(t *testing.T) {
	packet := noise(40, 2)
	packet[0] = 0x46
	for n := range 65536 {
		kind, code := uint8(n/256), uint8(n%256)
		if m := icmp.About(kind, code, packet); !equal(m, api.Icmp{Type: kind, Code: code, Data: packet[:32]}) {
			t.Fatalf("About(%d, %d) = %v", kind, code, m)
		}
	}
}

func TestAboutOfLongPackets(t *testing.T) {
	for _, n := range []int{1500, 65535, 65536, 100000} {
		packet := noise(n, 3)
		packet[0] = 0x4f
		if m := icmp.About(3, 4, packet); !equal(m, api.Icmp{Type: 3, Code: 4, Data: packet[:68]}) {
			t.Errorf("About of %d bytes: %d bytes", n, len(m.Data))
		}
	}
}

// P7.3: Cause

func TestCause(t *testing.T) {
	caused(t, "with options", beginning(), begun())
	want := begun()
	want.Opts, want.Data = nil, []byte{20, 21, 22, 23, 24, 25, 26, 27}
	data := beginning()
	data[0] = 0x45
	caused(t, "without options", data, want)
	caused(t, "without options, and nothing more", data[:28], want)
	caused(t, "zeros", append([]byte{0x45}, make([]byte, 27)...), api.IP{Data: make([]byte, 8)})
	caused(t, "nothing but ones", append([]byte{0x4f}, bytes.Repeat([]byte{255}, 67)...), api.IP{
		Tos: 255, Ident: 65535, Whole: true, More: true, Off: 8191, TTL: 255, Proto: 255, Src: math.MaxUint32, Dst: math.MaxUint32,
		Opts: bytes.Repeat([]byte{255}, 40), Data: bytes.Repeat([]byte{255}, 8),
	})
}

// Each byte of the header changes its field alone.
func TestCauseOfEachByte(t *testing.T) {
	for at, change := range map[int]func(p *api.IP){
		1:  func(p *api.IP) { p.Tos ^= 255 },
		4:  func(p *api.IP) { p.Ident ^= 0xff00 },
		5:  func(p *api.IP) { p.Ident ^= 0x00ff },
		7:  func(p *api.IP) { p.Off ^= 255 },
		8:  func(p *api.IP) { p.TTL ^= 255 },
		9:  func(p *api.IP) { p.Proto ^= 255 },
		12: func(p *api.IP) { p.Src ^= 0xff000000 },
		13: func(p *api.IP) { p.Src ^= 0x00ff0000 },
		14: func(p *api.IP) { p.Src ^= 0x0000ff00 },
		15: func(p *api.IP) { p.Src ^= 0x000000ff },
		16: func(p *api.IP) { p.Dst ^= 0xff000000 },
		17: func(p *api.IP) { p.Dst ^= 0x00ff0000 },
		18: func(p *api.IP) { p.Dst ^= 0x0000ff00 },
		19: func(p *api.IP) { p.Dst ^= 0x000000ff },
		20: func(p *api.IP) { p.Opts = []byte{20 ^ 255, 21, 22, 23} },
		23: func(p *api.IP) { p.Opts = []byte{20, 21, 22, 23 ^ 255} },
		24: func(p *api.IP) { p.Data = []byte{24 ^ 255, 25, 26, 27, 28, 29, 30, 31} },
		31: func(p *api.IP) { p.Data = []byte{24, 25, 26, 27, 28, 29, 30, 31 ^ 255} },
	} {
		data, want := beginning(), begun()
		data[at] ^= 255
		change(&want)
		caused(t, "another byte", data, want)
	}
}

func TestCauseOfEachType(t *testing.T) {
	short := beginning()[:27]
	other := append([]byte{0x50}, make([]byte, 40)...)
	for kind := range 256 {
		for _, code := range []uint8{0, 1, 4, 255} {
			for _, rest := range []uint32{0, 1, math.MaxUint32} {
				m := api.Icmp{Type: uint8(kind), Code: code, Rest: rest, Data: beginning()}
				p, e := icmp.Cause(m)
				if kind == 3 || kind == 11 {
					if !samePacket(p, begun()) || e != api.OK {
						t.Errorf("Cause of Type %d, Code %d, Rest %d = %v, error %d", kind, code, rest, p, int(e))
					}
					continue
				}
				for _, data := range [][]byte{beginning(), short, other, nil, {}, {0x45}} {
					m.Data = data
					if p, e := icmp.Cause(m); !samePacket(p, api.IP{}) || e != api.ErrNone {
						t.Errorf("Cause of Type %d, Code %d, Rest %d with % x = %v, error %d", kind, code, rest, data, p, int(e))
					}
				}
			}
		}
	}
}

func TestCauseOfFewBytes(t *testing.T) {
	unknown(t, "nil", nil, api.ErrShort)
	unknown(t, "empty", []byte{}, api.ErrShort)
	data := beginning()
	for _, first := range []byte{0x45, 0x46, 0x4f, 0x44, 0, 0xff} {
		data[0] = first
		for n := range 28 {
			unknown(t, "cut off", data[:n], api.ErrShort) // what lies in the unused capacity is not read
			unknown(t, "cut off", bytes.Clone(data[:n]), api.ErrShort)
		}
	}
}

func TestCauseOfEachFirstByteAndLength(t *testing.T) {
	for first := range 256 {
		all := noise(100, uint32(first))
		all[0] = byte(first)
		head := 4 * (first - 64)
		for n := range len(all) + 1 {
			data := all[:n]
			switch {
			case n < 28:
				unknown(t, "too few bytes", data, api.ErrShort)
			case first < 69 || first > 79:
				unknown(t, "the first byte", data, api.ErrForm)
			case n < head+8:
				unknown(t, "fewer than the header and 8", data, api.ErrShort)
				unknown(t, "fewer than the header and 8", bytes.Clone(data), api.ErrShort)
			default:
				off := word(data, 6)
				caused(t, "enough", data, api.IP{
					Tos: data[1], Ident: uint16(word(data, 4)), Whole: off/16384%2 == 1, More: off/8192%2 == 1, Off: off % 8192,
					TTL: data[8], Proto: data[9],
					Src: api.Addr(65536*word(data, 12) + word(data, 14)), Dst: api.Addr(65536*word(data, 16) + word(data, 18)),
					Opts: data[20:head], Data: data[head : head+8],
				})
			}
		}
	}
}

// All faults with one another: the error is that which the chapter names first.
func TestCauseAnswersTheErrorNamedFirst(t *testing.T) {
	for _, kind := range []uint8{0, 3, 8, 11, 12} {
		for _, first := range []int{0, 5, 0x35, 0x44, 0x45, 0x47, 0x4f, 0x50, 0x55, 0xc5, 0xff} {
			for n := range 80 {
				data := make([]byte, n)
				if n > 0 {
					data[0] = byte(first)
				}
				want := api.OK
				switch {
				case kind != 3 && kind != 11:
					want = api.ErrNone
				case n < 28:
					want = api.ErrShort
				case first/16 != 4 || first%16 < 5:
					want = api.ErrForm
				case n < first%16*4+8:
					want = api.ErrShort
				}
				p, e := icmp.Cause(api.Icmp{Type: kind, Data: data})
				if e != want || e != api.OK && !samePacket(p, api.IP{}) {
					t.Errorf("Cause of Type %d, %d bytes, the first %x: %v, error %d; want error %d", kind, n, first, p, int(e), int(want))
				}
			}
		}
	}
}

func TestCauseOfEachChecksumAndLength(t *testing.T) {
	for _, at := range []int{2, 10} {
		for n := range 65536 {
			data := beginning()
			set(data, at, n)
			if p, e := icmp.Cause(api.Icmp{Type: 3, Data: data}); !samePacket(p, begun()) || e != api.OK {
				t.Fatalf("Cause of % x = %v, error %d", data, p, int(e))
			}
		}
	}
}

// The highest bit is no flag of a packet: no error is named for it.
func TestCauseOfAllFlagsAndOffsets(t *testing.T) {
	for n := range 65536 {
		data, want := beginning(), begun()
		set(data, 6, n)
		want.Whole, want.More, want.Off = n/16384%2 == 1, n/8192%2 == 1, n%8192
		if p, e := icmp.Cause(api.Icmp{Type: 11, Data: data}); !samePacket(p, want) || e != api.OK {
			t.Fatalf("Cause of % x = %v, error %d; want %v", data, p, int(e), want)
		}
	}
}

func TestCauseLeavesBytesBehindThe8(t *testing.T) {
	for _, n := range []int{1, 2, 7, 8, 9, 100, 65475, 65480, 100000} {
		caused(t, "bytes behind the 8", append(beginning(), noise(n, 1)...), begun())
	}
}

// P7.4

// packets are packets that may be, with and without options, with 8 bytes and more.
func packets() []api.IP {
	all := []api.IP{
		{Data: make([]byte, 8)},
		{Tos: 255, Ident: 65535, Whole: true, More: true, Off: 8191, TTL: 255, Proto: 255, Src: math.MaxUint32, Dst: math.MaxUint32,
			Opts: bytes.Repeat([]byte{255}, 40), Data: bytes.Repeat([]byte{255}, 65475)},
		{TTL: 1, Proto: 17, Data: noise(65515, 1)},
	}
	for i := range 1100 {
		b := noise(20, uint32(104729*i))
		all = append(all, api.IP{
			Tos: b[0], Ident: uint16(word(b, 1)), Whole: b[3] > 127, More: b[4] > 127, Off: word(b, 5) % 8192, TTL: b[7], Proto: b[8],
			Src: api.Addr(65536*word(b, 9) + word(b, 11)), Dst: api.Addr(65536*word(b, 13) + word(b, 15)),
			Opts: noise(i%11*4, uint32(i)), Data: noise(8+int(b[17])%(1+i%200), uint32(i)+1),
		})
	}
	return all
}

func TestCauseOfAbout(t *testing.T) {
	for _, p := range packets() {
		packet, e := ip.Put(p)
		if e != api.OK {
			t.Fatalf("ip.Put: error %d", int(e))
		}
		want := p
		want.Data = p.Data[:8]
		for _, kind := range []uint8{3, 11} {
			for _, b := range [][]byte{packet, packet[:28+len(p.Opts)], append(bytes.Clone(packet), 1, 2, 3)} {
				m := icmp.About(kind, 2, b)
				if q, e := icmp.Cause(m); !samePacket(q, want) || e != api.OK {
					t.Fatalf("Cause of About % x = %v, error %d; want %v", few(b), q, int(e), want)
				}
			}
		}
		if q, e := icmp.Cause(icmp.About(8, 0, packet)); !samePacket(q, api.IP{}) || e != api.ErrNone {
			t.Fatalf("Cause of About, of a kind that is no error: %v, error %d", q, int(e))
		}
	}
}

func TestCauseOfAboutOverBytes(t *testing.T) {
	for _, p := range packets() {
		packet, e := ip.Put(p)
		b, e2 := icmp.Put(icmp.About(3, 3, packet))
		m, e3 := icmp.Get(b)
		q, e4 := icmp.Cause(m)
		p.Data = p.Data[:8]
		if e != api.OK || e2 != api.OK || e3 != api.OK || e4 != api.OK || !samePacket(p, q) {
			t.Fatalf("Cause of % x = %v, errors %d, %d, %d, %d; want %v", few(b), q, int(e), int(e2), int(e3), int(e4), p)
		}
	}
}

func TestCauseOfAboutOfLessThan8Bytes(t *testing.T) {
	for n := range 8 {
		for opts := 0; opts <= 40; opts += 4 {
			packet, e := ip.Put(api.IP{TTL: 9, Opts: noise(opts, 1), Data: noise(n, 2)})
			m := icmp.About(11, 0, packet)
			if e != api.OK || !bytes.Equal(m.Data, packet) {
				t.Errorf("About of % x: % x, error %d", packet, m.Data, int(e))
			}
			unknown(t, "less than 8 bytes of data", m.Data, api.ErrShort)
		}
	}
}
