package frag_test

import (
	"bytes"
	"math"
	"reflect"
	"testing"

	"towrope/api"
	"towrope/frag"
)

// noise returns n bytes that follow no plain pattern, other ones for each seed.
func noise(n int, seed uint32) []byte {
	b := make([]byte, n)
	for i := range b {
		seed = seed*1664525 + 1013904223
		b[i] = byte(seed >> 24)
	}
	return b
}

// few tells bytes, or the beginning of them.
func few(b []byte) []byte { return b[:min(len(b), 64)] }

// option is an option of this kind with so many bytes in all, at least 2.
func option(kind byte, size int) []byte {
	return append([]byte{kind, byte(size)}, noise(size-2, uint32(kind)+1)...)
}

// join is one behind the other.
func join(l ...[]byte) []byte { return bytes.Join(l, nil) }

// repeat is an option so many times.
func repeat(opt []byte, times int) []byte { return bytes.Repeat(opt, times) }

// plain is a packet no field of which is at an end, and no two of which are the same. Of its options 8 bytes are carried.
func plain() api.IP {
	return api.IP{Tos: 3, Ident: 0x1234, TTL: 64, Proto: 17, Src: 0x0a0b0c0d, Dst: 0xc0a80102,
		Opts: join([]byte{1}, option(130, 5), option(7, 3), option(136, 3)), Data: noise(500, 7)}
}

// with is the packet of plain with something changed.
func with(change func(p *api.IP)) api.IP {
	p := plain()
	change(&p)
	return p
}

// sized is the packet of plain with these options and so many bytes of data.
func sized(opts []byte, n int) api.IP {
	return with(func(p *api.IP) { p.Opts, p.Data = opts, noise(n, uint32(n)+3) })
}

// bare is a packet with nil in place of empty slices.
func bare(p api.IP) api.IP {
	if len(p.Opts) == 0 {
		p.Opts = nil
	}
	if len(p.Data) == 0 {
		p.Data = nil
	}
	return p
}

// equal compares packets, nil and empty slices being the same.
func equal(p, q api.IP) bool { return reflect.DeepEqual(bare(p), bare(q)) }

// allEqual compares lists of packets.
func allEqual(l, m []api.IP) bool {
	if len(l) != len(m) {
		return false
	}
	for i := range l {
		if !equal(l[i], m[i]) {
			return false
		}
	}
	return true
}

// understood reads options in another way than the program: the first one, and by itself what is behind it.
func understood(opts []byte) (carried []byte, ok bool) {
	if len(opts) == 0 || opts[0] == 0 {
		return nil, true
	}
	size := 1
	if opts[0] != 1 {
		if len(opts) == 1 || opts[1] == 0 || opts[1] == 1 || int(opts[1]) > len(opts) {
			return nil, false
		}
		size = int(opts[1])
	}
	behind, ok := understood(opts[size:])
	if !ok {
		return nil, false
	}
	if opts[0]&0x80 != 0 {
		behind = join(opts[:size], behind)
	}
	return behind, true
}

// carried tells the result of Carried in another way.
func carried(opts []byte) ([]byte, api.Errno) {
	if len(opts) > 40 {
		return nil, api.ErrArg
	}
	b, ok := understood(opts)
	if !ok {
		return nil, api.ErrForm
	}
	for len(b)&3 != 0 {
		b = append(b, 0)
	}
	return b, api.OK
}

// divided tells the fragments in another way than the program: the index at which each begins follows from its number alone. The packet must be one that may be divided.
func divided(p api.IP, mtu int) []api.IP {
	if 20+len(p.Opts)+len(p.Data) <= mtu {
		return []api.IP{p}
	}
	later, _ := understood(p.Opts)
	for len(later)%4 != 0 {
		later = append(later, 0)
	}
	room := func(no int) int {
		if no == 0 {
			return mtu - 20 - len(p.Opts)
		}
		return mtu - 20 - len(later)
	}
	begin := func(no int) int {
		if no == 0 {
			return 0
		}
		return room(0)/8*8 + (no-1)*(room(no)/8*8)
	}
	var l []api.IP
	for no := 0; ; no++ {
		q := p
		if no > 0 {
			q.Opts = later
		}
		q.Off = p.Off + begin(no)/8
		if len(p.Data) <= begin(no)+room(no) {
			q.Data = p.Data[begin(no):]
			return append(l, q)
		}
		q.Data = p.Data[begin(no):begin(no+1)]
		q.More = true
		l = append(l, q)
	}
}

// refused fails unless Split and Many answer this error, and nothing beside it.
func refused(t *testing.T, what string, p api.IP, mtu int, want api.Errno) {
	t.Helper()
	if l, e := frag.Split(p, mtu); len(l) != 0 || e != want {
		t.Errorf("%s, mtu %d: Split = %d fragments, error %d; want error %d", what, mtu, len(l), int(e), int(want))
	}
	if n, e := frag.Many(p, mtu); n != 0 || e != want {
		t.Errorf("%s, mtu %d: Many = %d, error %d; want error %d", what, mtu, n, int(e), int(want))
	}
}

// split fails unless Split and Many answer without an error, and the same; it returns the fragments.
func split(t *testing.T, what string, p api.IP, mtu int) []api.IP {
	t.Helper()
	l, e := frag.Split(p, mtu)
	if e != api.OK {
		t.Fatalf("%s, mtu %d: Split: error %d", what, mtu, int(e))
	}
	if n, e := frag.Many(p, mtu); n != len(l) || e != api.OK {
		t.Fatalf("%s, mtu %d: Many = %d, error %d; want %d", what, mtu, n, int(e), len(l))
	}
	return l
}

// pieces fails unless the fragments are these.
func pieces(t *testing.T, what string, p api.IP, mtu int, want []api.IP) {
	t.Helper()
	l := split(t, what, p, mtu)
	if len(l) != len(want) {
		t.Fatalf("%s, mtu %d: %d fragments; want %d", what, mtu, len(l), len(want))
	}
	for i := range l {
		if !equal(l[i], want[i]) {
			t.Fatalf("%s, mtu %d: fragment %d: Off %d, More %v, options % x, %d bytes; want Off %d, More %v, options % x, %d bytes, and nothing else changed",
				what, mtu, i, l[i].Off, l[i].More, l[i].Opts, len(l[i].Data), want[i].Off, want[i].More, want[i].Opts, len(want[i].Data))
		}
	}
}

// The chapter's example

func TestExample(t *testing.T) {
	p := api.IP{Data: noise(100, 1)}
	pieces(t, "the example", p, 68, []api.IP{
		{More: true, Data: p.Data[:48]},
		{More: true, Off: 6, Data: p.Data[48:96]},
		{Off: 12, Data: p.Data[96:]},
	})
}

// What no function may be stopped by: each ends without a panic, whatever it is given.
func TestEveryCallEnds(t *testing.T) {
	offs := []int{0, 1, 8191, 8192, -1, math.MinInt, math.MaxInt}
	mtus := []int{0, 1, 20, 27, 28, 60, 67, 68, 69, 1500, 65535, 65536, -1, math.MinInt, math.MaxInt}
	opts := [][]byte{nil, {}, {0}, {130}, {130, 0, 0, 0}, noise(39, 1), noise(40, 2), noise(41, 3), noise(44, 4), repeat(option(255, 4), 10), noise(70000, 5)}
	lens := []int{0, 1, 8, 40, 48, 49, 65475, 65515, 65516, 70000}
	for _, o := range opts {
		frag.Carried(o)
		for _, n := range lens {
			data := noise(n, 1)
			for _, off := range offs {
				for _, mtu := range mtus {
					p := api.IP{Off: off, Opts: o, Data: data}
					l, e := frag.Split(p, mtu)
					if m, e2 := frag.Many(p, mtu); m != len(l) || e2 != e || (e == api.OK) != (m > 0) {
						t.Errorf("Off %d, %d and %d bytes, mtu %d: %d fragments, error %d, and Many %d, error %d", off, len(o), n, mtu, len(l), int(e), m, int(e2))
					}
				}
			}
		}
	}
}
