package ip_test

import (
	"bytes"
	"testing"

	"towrope/api"
	"towrope/ip"
)

// set writes a word at index at.
func set(b []byte, at, word int) { b[at], b[at+1] = byte(word/256), byte(word%256) }

// right writes the checksum with which the first head bytes of b are right.
func right(b []byte, head int) {
	set(b, 10, 0)
	set(b, 10, 65535-folded(total(b[:head])))
}

// refused fails unless Get and Live answer this error of b, and nothing beside it.
func refused(t *testing.T, what string, b []byte, want api.Errno) {
	t.Helper()
	if p, e := ip.Get(b); !equal(p, api.IP{}) || e != want {
		t.Errorf("%s: Get(% x) = %v, error %d; want error %d", what, few(b), p, int(e), int(want))
	}
	if l, e := ip.Live(b); len(l) != 0 || e != want {
		t.Errorf("%s: Live(% x) = % x, error %d; want error %d", what, few(b), few(l), int(e), int(want))
	}
}

// got fails unless Get answers this packet of b.
func got(t *testing.T, what string, b []byte, want api.IP) {
	t.Helper()
	if p, e := ip.Get(b); !equal(p, want) || e != api.OK {
		t.Errorf("%s: Get(% x) = error %d, and not what was wanted", what, few(b), int(e))
	}
}

// P6.2: Get

func TestGetOfTheExample(t *testing.T) {
	b := []byte{0x45, 0, 0, 0x15, 0, 0, 0, 0, 0x40, 0x11, 0x66, 0xd6, 0x0a, 0, 0, 1, 0x0a, 0, 0, 2, 1}
	got(t, "the example", b, api.IP{TTL: 64, Proto: 17, Src: 0x0a000001, Dst: 0x0a000002, Data: []byte{1}})
}

func TestGet(t *testing.T) {
	b := []byte{0x46, 1, 0, 27, 2, 3, 0x44, 5, 6, 7, 0, 0, 8, 9, 10, 11, 12, 13, 14, 15, 16, 17, 18, 19, 20, 21, 22}
	p := api.IP{Tos: 1, Ident: 0x0203, Whole: true, Off: 0x0405, TTL: 6, Proto: 7, Src: 0x08090a0b, Dst: 0x0c0d0e0f,
		Opts: []byte{16, 17, 18, 19}, Data: []byte{20, 21, 22}}
	right(b, 24)
	got(t, "plain", b, p)
	b[6] |= 0x20
	p.More = true
	right(b, 24)
	got(t, "with both flags", b, p)
	b[6] &^= 0x40
	p.Whole = false
	right(b, 24)
	got(t, "with More", b, p)
}

func TestGetOfFieldsAtTheirEnds(t *testing.T) {
	for _, p := range fields() {
		got(t, "a field at its end", told(p), p)
	}
}

func TestGetOfFewBytes(t *testing.T) {
	refused(t, "nil", nil, api.ErrShort)
	refused(t, "empty", []byte{}, api.ErrShort)
	whole := told(api.IP{})
	for n := range 20 {
		refused(t, "cut off", whole[:n], api.ErrShort) // what lies in the unused capacity is not read
		refused(t, "zeros", make([]byte, n), api.ErrShort)
	}
	got(t, "20 bytes", whole, api.IP{})
}

func TestGetOfEachFirstByte(t *testing.T) {
	for first := range 256 {
		b := make([]byte, 64)
		b[0], b[3] = byte(first), 64
		if first < 69 || first > 79 {
			right(b, 20)
			refused(t, "the first byte", b, api.ErrForm)
			refused(t, "the first byte of 20", b[:20], api.ErrForm)
			refused(t, "the first byte of 19", b[:19], api.ErrShort)
			continue
		}
		head := 4 * (first - 64)
		right(b, head)
		got(t, "the first byte", b, api.IP{Opts: make([]byte, head-20), Data: make([]byte, 64-head)})
	}
}

func TestGetOfAHeaderThatIsCutOff(t *testing.T) {
	for opts := 4; opts <= 40; opts += 4 {
		p := api.IP{TTL: 9, Opts: noise(opts, uint32(opts))}
		b := told(p)
		for n := 20; n < len(b); n++ {
			refused(t, "cut off", b[:n], api.ErrShort)
			refused(t, "cut off", bytes.Clone(b[:n]), api.ErrShort)
		}
		got(t, "not cut off", b, p)
	}
}

func TestGetOfAWrongChecksum(t *testing.T) {
	for _, p := range []api.IP{{}, plain(), fields()[2]} {
		b := told(p)
		head := len(b) - len(p.Data)
		for i := 8; i < 8*head; i++ { // another first byte is another length
			b[i/8] ^= 1 << (i % 8)
			refused(t, "a bit turned", b, api.ErrSum)
			b[i/8] ^= 1 << (i % 8)
		}
		check := words(b)[5]
		for n := range 65536 {
			set(b, 10, n)
			if n%65535 == check%65535 {
				got(t, "the right checksum", b, p)
				continue
			}
			if q, e := ip.Get(b); !equal(q, api.IP{}) || e != api.ErrSum {
				t.Fatalf("the checksum %d in place of %d: error %d", n, check, int(e))
			}
		}
	}
}

// Data are no part of what the checksum is for.
func TestGetOfOtherData(t *testing.T) {
	b := told(plain())
	for i := range 5 {
		b[24+i] ^= 0xff
	}
	got(t, "other data", b, with(func(p *api.IP) { p.Data = []byte{9 ^ 255, 8 ^ 255, 7 ^ 255, 6 ^ 255, 5 ^ 255} }))
}

func TestGetOfAChecksumInPlaceOf0(t *testing.T) {
	for opts := 0; opts <= 40; opts += 4 {
		p := api.IP{TTL: 5, Src: 0xffff0000, Opts: noise(opts, 1), Data: []byte{7}}
		p.Ident = uint16(words(told(p))[5]) // what was wanting is there now
		b := told(p)
		if words(b)[5] != 0 {
			t.Fatal("the checksum is not 0:", words(b)[5])
		}
		got(t, "the checksum 0", b, p)
		set(b, 10, 65535)
		got(t, "the checksum 65535 in place of 0", b, p)
		set(b, 10, 65534)
		refused(t, "the checksum 65534 in place of 0", b, api.ErrSum)
		set(b, 10, 1)
		refused(t, "the checksum 1 in place of 0", b, api.ErrSum)
	}
}

func TestGetOfEachLength(t *testing.T) {
	for _, opts := range []int{0, 4, 40} {
		p := api.IP{TTL: 9, Opts: noise(opts, 3), Data: noise(100, 4)}
		b := told(p)
		head := 20 + opts
		for n := range 65536 {
			set(b, 2, n)
			right(b, head)
			switch q, e := ip.Get(b); {
			case n < head:
				if e != api.ErrForm || !equal(q, api.IP{}) {
					t.Fatalf("the length %d with a header of %d: error %d", n, head, int(e))
				}
			case n > len(b):
				if e != api.ErrShort || !equal(q, api.IP{}) {
					t.Fatalf("the length %d of %d bytes: error %d", n, len(b), int(e))
				}
			default:
				want := p
				want.Data = p.Data[:n-head]
				got(t, "bytes behind the length", b, want)
			}
		}
	}
}

func TestGetOfLongPackets(t *testing.T) {
	p := api.IP{TTL: 9, Data: noise(65515, 1)}
	b := append(told(p), 1, 2, 3)
	for n := 65532; n < 65535; n++ {
		refused(t, "less than its length", b[:n], api.ErrShort)
	}
	for n := 65535; n <= len(b); n++ {
		got(t, "the greatest length", b[:n], p)
	}
	got(t, "many bytes behind", append(told(plain()), noise(100000, 2)...), plain())
}

func TestGetOfTheHighestFlag(t *testing.T) {
	for _, p := range []api.IP{{}, plain(), {Off: 8191, Whole: true, More: true}, {Off: 8191}, {Whole: true}, {More: true}} {
		b := told(p)
		b[6] |= 0x80
		refused(t, "and a wrong checksum", b, api.ErrSum)
		right(b, 20+len(p.Opts))
		refused(t, "the highest flag", b, api.ErrForm)
	}
}

// All faults with one another: the error is that which the chapter names first.
func TestGetAnswersTheErrorNamedFirst(t *testing.T) {
	p := api.IP{Ident: 7, TTL: 9, Opts: noise(8, 1), Data: noise(10, 2)} // a header of 28 bytes, 38 in all
	for _, first := range []int{0x47, 0, 4, 0x37, 0x40, 0x44, 0x50, 0x57, 0xff} {
		for _, length := range []int{38, 0, 19, 20, 27, 28, 37, 39, 65535} {
			for _, high := range []bool{false, true} {
				for _, wrong := range []bool{false, true} {
					b := append(told(p), 1, 2)
					b[0] = byte(first)
					set(b, 2, length)
					if high {
						b[6] |= 0x80
					}
					right(b, 28)
					if wrong {
						b[27]++
					}
					for n := range len(b) + 1 {
						want := api.OK
						switch {
						case n < 20:
							want = api.ErrShort
						case first != 0x47:
							want = api.ErrForm
						case n < 28:
							want = api.ErrShort
						case wrong:
							want = api.ErrSum
						case length < 28 || high:
							want = api.ErrForm
						case n < length:
							want = api.ErrShort
						}
						if q, e := ip.Get(b[:n]); e != want || (e != api.OK && !equal(q, api.IP{})) {
							t.Fatalf("Get(% x) = %v, error %d; want error %d", b[:n], q, int(e), int(want))
						}
						if l, e := ip.Live(b[:n]); e != want || (e != api.OK && len(l) != 0) {
							t.Fatalf("Live(% x) = % x, error %d; want error %d", b[:n], l, int(e), int(want))
						}
					}
				}
			}
		}
	}
}

// P6.4

func TestGetReturnsWhatWasPut(t *testing.T) {
	for _, p := range append(fields(), packets(3000)...) {
		b, e := ip.Put(p)
		if e != api.OK {
			t.Fatalf("Put: error %d", int(e))
		}
		q, e := ip.Get(b)
		if e != api.OK || !equal(p, q) || !ip.Same(p, q) {
			t.Fatalf("Get(% x) = %v, error %d", few(b), q, int(e))
		}
		if q, e = ip.Get(append(b, 0)); e != api.OK || !ip.Same(p, q) {
			t.Fatalf("Get(% x), with a byte behind it: error %d", few(b), int(e))
		}
	}
}

func TestPutOfWhatGetReturned(t *testing.T) {
	for i, p := range append(fields(), packets(3000)...) {
		all := told(p)
		whole := append(bytes.Clone(all), noise(i%5, uint32(i))...)
		for _, check := range []int{words(all)[5], 65535} {
			set(whole, 10, check)
			q, e := ip.Get(whole)
			if check == 65535 && words(all)[5] != 0 {
				if e != api.ErrSum {
					t.Fatalf("Get(% x): error %d", few(whole), int(e))
				}
				continue
			}
			b, e2 := ip.Put(q)
			if e != api.OK || e2 != api.OK || !bytes.Equal(b, all) {
				t.Fatalf("Get and Put of % x: % x, errors %d, %d", few(whole), few(b), int(e), int(e2))
			}
		}
	}
}

// Of any bytes: what Get takes, Put gives again, but for the two checksums that are one.
func TestAnyBytes(t *testing.T) {
	taken := 0
	for i := range 60000 {
		b := noise(20+i%60, uint32(i))
		b[0] = byte(64 + i%17)
		b[2] = 0
		b[3] %= 90
		if i%8 != 0 {
			b[6] &= 127
		}
		if head := 4 * (i % 17); head >= 20 && head <= len(b) && i%5 != 0 {
			right(b, head)
		}
		p, e := ip.Get(b)
		if e != api.OK {
			refused(t, "refused", b, e)
			continue
		}
		taken++
		all, e := ip.Put(p)
		if e != api.OK || !bytes.Equal(all, b[:ip.Len(p)]) {
			t.Fatalf("Get and Put of % x: % x, error %d", b, all, int(e))
		}
	}
	if taken < 5000 {
		t.Error("too few of them are packets:", taken)
	}
}

// packets are n packets that may be, of no plain pattern.
func packets(n int) []api.IP {
	var all []api.IP
	for i := range n {
		b := noise(20, uint32(7919*i))
		all = append(all, api.IP{
			Tos: b[0], Ident: uint16(b[1])<<8 | uint16(b[2]), Whole: b[3] > 127, More: b[4] > 127,
			Off: (int(b[5])<<8 | int(b[6])) % 8192, TTL: b[7], Proto: b[8],
			Src:  api.Addr(b[9])<<24 | api.Addr(b[10])<<16 | api.Addr(b[11])<<8 | api.Addr(b[12]),
			Dst:  api.Addr(b[13])<<24 | api.Addr(b[14])<<16 | api.Addr(b[15])<<8 | api.Addr(b[16]),
			Opts: noise(4*(int(b[17])%11), uint32(i)), Data: noise(int(b[18]), uint32(i)+1),
		})
	}
	return all
}
