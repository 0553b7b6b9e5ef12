package ip_test

import (
	"bytes"
	"math"
	"reflect"
	"testing"

	"towrope/api"
	"towrope/ip"
)

// folded is the ones' complement sum of words, told by their sum as a number: 1 to 65535 stand for the rests by 65535, and only zeros make 0.
func folded(total int) int {
	if total == 0 {
		return 0
	}
	return (total-1)%65535 + 1
}

// words reads an even number of bytes as words.
func words(b []byte) []int {
	var l []int
	for i := 0; i+1 < len(b); i += 2 {
		l = append(l, 256*int(b[i])+int(b[i+1]))
	}
	return l
}

// total adds the words of b without bringing a carry round.
func total(b []byte) int {
	n := 0
	for _, w := range words(b) {
		n += w
	}
	return n
}

// bit is n if it is set, else 0.
func bit(set bool, n int) int {
	if set {
		return n
	}
	return 0
}

// told writes a packet out in another way than the program: as words.
func told(p api.IP) []byte {
	src, dst := int(p.Src), int(p.Dst)
	l := append([]int{
		256*(69+len(p.Opts)/4) + int(p.Tos),
		20 + len(p.Opts) + len(p.Data),
		int(p.Ident),
		bit(p.Whole, 16384) + bit(p.More, 8192) + p.Off,
		256*int(p.TTL) + int(p.Proto),
		0,
		src / 65536, src % 65536,
		dst / 65536, dst % 65536,
	}, words(p.Opts)...)
	n := 0
	for _, w := range l {
		n += w
	}
	l[5] = 65535 - folded(n)
	var b []byte
	for _, w := range l {
		b = append(b, byte(w/256), byte(w%256))
	}
	return append(b, p.Data...)
}

// noise returns n bytes that follow no plain pattern, other ones for each seed.
func noise(n int, seed uint32) []byte {
	b := make([]byte, n)
	for i := range b {
		seed = seed*1664525 + 1013904223
		b[i] = byte(seed >> 24)
	}
	return b
}

// plain is a packet no field of which is at an end, and no two of which are the same.
func plain() api.IP {
	return api.IP{Tos: 3, Ident: 0x1234, Off: 0x0567, TTL: 64, Proto: 17, Src: 0x0a0b0c0d, Dst: 0xc0a80102,
		Opts: []byte{7, 4, 5, 6}, Data: []byte{9, 8, 7, 6, 5}}
}

// with is the packet of plain with one thing changed.
func with(change func(p *api.IP)) api.IP {
	p := plain()
	change(&p)
	return p
}

// fields are packets of which each has one field at its least or its greatest, alone or with all the others.
func fields() []api.IP {
	all := []api.IP{
		{},
		plain(),
		{Tos: 255, Ident: 65535, Whole: true, More: true, Off: 8191, TTL: 255, Proto: 255, Src: math.MaxUint32, Dst: math.MaxUint32,
			Opts: bytes.Repeat([]byte{255}, 40), Data: bytes.Repeat([]byte{255}, 65475)},
	}
	for _, change := range []func(p *api.IP){
		func(p *api.IP) { p.Tos = 0 },
		func(p *api.IP) { p.Tos = 255 },
		func(p *api.IP) { p.Ident = 0 },
		func(p *api.IP) { p.Ident = 65535 },
		func(p *api.IP) { p.Ident = 0x00ff },
		func(p *api.IP) { p.Whole = true },
		func(p *api.IP) { p.More = true },
		func(p *api.IP) { p.Whole, p.More = true, true },
		func(p *api.IP) { p.Off = 0 },
		func(p *api.IP) { p.Off = 0; p.Whole = true },
		func(p *api.IP) { p.Off = 0; p.More = true },
		func(p *api.IP) { p.Off = 0; p.Whole, p.More = true, true },
		func(p *api.IP) { p.Off = 8191 },
		func(p *api.IP) { p.Off = 8191; p.Whole = true },
		func(p *api.IP) { p.Off = 8191; p.More = true },
		func(p *api.IP) { p.Off = 8191; p.Whole, p.More = true, true },
		func(p *api.IP) { p.Off = 4096 },
		func(p *api.IP) { p.TTL = 0 },
		func(p *api.IP) { p.TTL = 255 },
		func(p *api.IP) { p.Proto = 0 },
		func(p *api.IP) { p.Proto = 255 },
		func(p *api.IP) { p.Src = 0 },
		func(p *api.IP) { p.Src = math.MaxUint32 },
		func(p *api.IP) { p.Dst = 0 },
		func(p *api.IP) { p.Dst = math.MaxUint32 },
		func(p *api.IP) { p.Opts = nil },
		func(p *api.IP) { p.Opts = []byte{} },
		func(p *api.IP) { p.Opts = noise(36, 1) },
		func(p *api.IP) { p.Opts = noise(40, 2) },
		func(p *api.IP) { p.Data = nil },
		func(p *api.IP) { p.Data = []byte{} },
		func(p *api.IP) { p.Opts, p.Data = nil, nil },
		func(p *api.IP) { p.Data = []byte{0} },
		func(p *api.IP) { p.Data = noise(1, 3) },
		func(p *api.IP) { p.Data = noise(1500, 4) },
		func(p *api.IP) { p.Data = noise(65510, 5) },
		func(p *api.IP) { p.Data = noise(65511, 6) },
		func(p *api.IP) { p.Opts, p.Data = nil, noise(65515, 7) },
		func(p *api.IP) { p.Opts, p.Data = noise(40, 8), noise(65475, 9) },
	} {
		all = append(all, with(change))
	}
	return all
}

// bare is a packet with nil in place of empty slices.
func bare(p api.IP) api.IP {
	if len(p.Opts) == 0 {
		p.Opts = nil
	}
	if len(p.Data) == 0 {
		p.Data = nil
	}
	return p
}

// equal compares packets, nil and empty slices being the same.
func equal(p, q api.IP) bool { return reflect.DeepEqual(bare(p), bare(q)) }

// few tells a packet, or the beginning of its bytes.
func few(b []byte) []byte { return b[:min(len(b), 64)] }

// refusals are packets that may not be, and the error of each.
func refusals() []struct {
	what string
	p    api.IP
	e    api.Errno
} {
	long := noise(65512, 1) // with the options of plain and 20 bytes: 65536
	return []struct {
		what string
		p    api.IP
		e    api.Errno
	}{
		{"Off -1", with(func(p *api.IP) { p.Off = -1 }), api.ErrArg},
		{"Off 8192", with(func(p *api.IP) { p.Off = 8192 }), api.ErrArg},
		{"Off 65536", with(func(p *api.IP) { p.Off = 65536 }), api.ErrArg},
		{"the least Off", with(func(p *api.IP) { p.Off = math.MinInt }), api.ErrArg},
		{"the greatest Off", with(func(p *api.IP) { p.Off = math.MaxInt }), api.ErrArg},
		{"1 byte of options", with(func(p *api.IP) { p.Opts = noise(1, 1) }), api.ErrArg},
		{"2 bytes of options", with(func(p *api.IP) { p.Opts = noise(2, 1) }), api.ErrArg},
		{"3 bytes of options", with(func(p *api.IP) { p.Opts = noise(3, 1) }), api.ErrArg},
		{"39 bytes of options", with(func(p *api.IP) { p.Opts = noise(39, 1) }), api.ErrArg},
		{"41 bytes of options", with(func(p *api.IP) { p.Opts = noise(41, 1) }), api.ErrArg},
		{"44 bytes of options", with(func(p *api.IP) { p.Opts = noise(44, 1) }), api.ErrArg},
		{"65536 bytes of options", with(func(p *api.IP) { p.Opts = noise(65536, 1) }), api.ErrArg},
		{"65536 bytes with options", with(func(p *api.IP) { p.Data = long }), api.ErrLong},
		{"65536 bytes without options", api.IP{Data: noise(65516, 1)}, api.ErrLong},
		{"65536 bytes with the most options", api.IP{Opts: noise(40, 1), Data: noise(65476, 1)}, api.ErrLong},
		{"131072 bytes", api.IP{Data: noise(131052, 1)}, api.ErrLong},
		// The error named first.
		{"Off -1 and too long", with(func(p *api.IP) { p.Off, p.Data = -1, long }), api.ErrArg},
		{"Off 8192 and too long", with(func(p *api.IP) { p.Off, p.Data = 8192, long }), api.ErrArg},
		{"3 bytes of options and too long", with(func(p *api.IP) { p.Opts, p.Data = noise(3, 1), noise(65535, 1) }), api.ErrArg},
		{"41 bytes of options and too long", with(func(p *api.IP) { p.Opts, p.Data = noise(41, 1), long }), api.ErrArg},
		{"44 bytes of options and too long", with(func(p *api.IP) { p.Opts, p.Data = noise(44, 1), long }), api.ErrArg},
		{"everything", api.IP{Off: -1, Opts: noise(41, 1), Data: long}, api.ErrArg},
	}
}

// P6.1

func TestCheck(t *testing.T) {
	for _, p := range fields() {
		if e := ip.Check(p); e != api.OK {
			t.Errorf("Check of a packet with Off %d and %d and %d bytes: error %d", p.Off, len(p.Opts), len(p.Data), int(e))
		}
	}
	for _, c := range refusals() {
		if e := ip.Check(c.p); e != c.e {
			t.Errorf("Check with %s: error %d; want %d", c.what, int(e), int(c.e))
		}
	}
}

func TestCheckOfEachNumberOfOptions(t *testing.T) {
	for n := range 100 {
		want := api.ErrArg
		switch n {
		case 0, 4, 8, 12, 16, 20, 24, 28, 32, 36, 40:
			want = api.OK
		}
		if e := ip.Check(api.IP{Opts: noise(n, 1)}); e != want {
			t.Errorf("Check with %d bytes of options: error %d; want %d", n, int(e), int(want))
		}
	}
}

func TestCheckOfEachOff(t *testing.T) {
	for off := -10; off < 70000; off++ {
		want := api.OK
		if off < 0 || off >= 8192 {
			want = api.ErrArg
		}
		if e := ip.Check(api.IP{Off: off}); e != want {
			t.Fatalf("Check with Off %d: error %d; want %d", off, int(e), int(want))
		}
	}
}

// Nothing but Off, Opts and the length may make a difference: the longest packet may have the greatest Off.
func TestCheckLeavesTheRestFree(t *testing.T) {
	p := api.IP{Whole: true, More: true, Off: 8191, Data: noise(65515, 1)}
	if e := ip.Check(p); e != api.OK {
		t.Errorf("error %d", int(e))
	}
}

func TestLen(t *testing.T) {
	for _, c := range []struct {
		opts, data, want int
	}{
		{0, 0, 20}, {4, 0, 24}, {40, 0, 60}, {0, 1, 21}, {0, 2, 22}, {4, 5, 29}, {40, 65475, 65535}, {0, 65515, 65535},
		// Of packets that may not be, too.
		{3, 1, 24}, {41, 0, 61}, {0, 65516, 65536}, {65536, 65536, 131092},
	} {
		p := api.IP{Tos: 1, Off: 8191, Opts: noise(c.opts, 1), Data: noise(c.data, 2)}
		if n := ip.Len(p); n != c.want {
			t.Errorf("Len with %d and %d bytes = %d; want %d", c.opts, c.data, n, c.want)
		}
	}
	if n := ip.Len(api.IP{Off: -1, Opts: []byte{}, Data: []byte{}}); n != 20 {
		t.Errorf("Len with empty slices = %d", n)
	}
}

// P6.3

func TestSame(t *testing.T) {
	changes := map[string]func(p *api.IP){
		"Tos":              func(p *api.IP) { p.Tos ^= 1 },
		"Tos high":         func(p *api.IP) { p.Tos ^= 128 },
		"Ident":            func(p *api.IP) { p.Ident ^= 1 },
		"Ident high":       func(p *api.IP) { p.Ident ^= 1 << 15 },
		"Whole":            func(p *api.IP) { p.Whole = !p.Whole },
		"More":             func(p *api.IP) { p.More = !p.More },
		"Off":              func(p *api.IP) { p.Off ^= 1 },
		"Off high":         func(p *api.IP) { p.Off ^= 4096 },
		"Off out of range": func(p *api.IP) { p.Off += 8192 },
		"Off beyond":       func(p *api.IP) { p.Off ^= 1 << 62 },
		"TTL":              func(p *api.IP) { p.TTL ^= 1 },
		"TTL high":         func(p *api.IP) { p.TTL ^= 128 },
		"Proto":            func(p *api.IP) { p.Proto ^= 1 },
		"Proto high":       func(p *api.IP) { p.Proto ^= 128 },
		"Src":              func(p *api.IP) { p.Src ^= 1 },
		"Src high":         func(p *api.IP) { p.Src ^= 1 << 31 },
		"Dst":              func(p *api.IP) { p.Dst ^= 1 },
		"Dst high":         func(p *api.IP) { p.Dst ^= 1 << 31 },
		"a longer Opts":    func(p *api.IP) { p.Opts = append(bytes.Clone(p.Opts), 0) },
		"a longer Data":    func(p *api.IP) { p.Data = append(bytes.Clone(p.Data), 0) },
	}
	for i, p := range fields() {
		q := p
		q.Opts, q.Data = bytes.Clone(p.Opts), bytes.Clone(p.Data)
		if !ip.Same(p, p) || !ip.Same(p, q) || !ip.Same(q, p) {
			t.Errorf("packet %d is not the same as itself", i)
		}
		for name, change := range changes {
			q := p
			change(&q)
			if ip.Same(p, q) || ip.Same(q, p) {
				t.Errorf("packet %d is the same as with another field: %s", i, name)
			}
		}
	}
}

func TestSameOfBytes(t *testing.T) {
	for i := range 8 {
		p := api.IP{Opts: noise(8, 1), Data: noise(8, 2)}
		q := api.IP{Opts: noise(8, 1), Data: noise(8, 2)}
		q.Opts[i]++
		if ip.Same(p, q) || ip.Same(q, p) {
			t.Error("the same with another byte of Opts:", i)
		}
		q.Opts[i]--
		q.Data[i]++
		if ip.Same(p, q) || ip.Same(q, p) {
			t.Error("the same with another byte of Data:", i)
		}
		q.Data = p.Data[:i]
		if ip.Same(p, q) || ip.Same(q, p) {
			t.Error("the same with less of Data:", i)
		}
		q.Opts, q.Data = p.Opts[:i], p.Data
		if ip.Same(p, q) || ip.Same(q, p) {
			t.Error("the same with less of Opts:", i)
		}
	}
	if ip.Same(api.IP{Opts: []byte{1, 2, 3, 4}}, api.IP{Data: []byte{1, 2, 3, 4}}) {
		t.Error("options are the same as data")
	}
	if ip.Same(api.IP{Src: 1}, api.IP{Dst: 1}) || ip.Same(api.IP{TTL: 1}, api.IP{Proto: 1}) || ip.Same(api.IP{Whole: true}, api.IP{More: true}) {
		t.Error("fields that are changed for one another are the same")
	}
}

func TestSameOfNilAndEmpty(t *testing.T) {
	for _, p := range []api.IP{{}, {Tos: 1, TTL: 2}} {
		q := p
		q.Opts, q.Data = []byte{}, make([]byte, 0, 9)
		if !ip.Same(p, q) || !ip.Same(q, p) {
			t.Error("nil is not the same as empty")
		}
	}
}

// What may not be put is compared too.
func TestSameOfWhatMayNotBe(t *testing.T) {
	for _, c := range refusals() {
		if !ip.Same(c.p, c.p) {
			t.Errorf("with %s: not the same as itself", c.what)
		}
		if ip.Same(c.p, plain()) || ip.Same(plain(), c.p) {
			t.Errorf("with %s: the same as without", c.what)
		}
	}
}
