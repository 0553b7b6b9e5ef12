package ip_test

import (
	"bytes"
	"testing"

	"towrope/api"
	"towrope/ip"
	"towrope/sum"
)

// older is a packet with a TTL that is less by 1.
func older(p api.IP) api.IP {
	p.TTL--
	return p
}

// checked is a packet with the Ident with which its checksum is check, which is not 65535.
func checked(p api.IP, check int) api.IP {
	p.Ident = 0
	p.Ident = uint16((words(told(p))[5] + 65535 - check) % 65535)
	return p
}

// P6.3

func TestLive(t *testing.T) {
	b := []byte{0x45, 0, 0, 0x15, 0, 0, 0, 0, 0x40, 0x11, 0x66, 0xd6, 0x0a, 0, 0, 1, 0x0a, 0, 0, 2, 1}
	want := []byte{0x45, 0, 0, 0x15, 0, 0, 0, 0, 0x3f, 0x11, 0x67, 0xd6, 0x0a, 0, 0, 1, 0x0a, 0, 0, 2, 1}
	if l, e := ip.Live(b); !bytes.Equal(l, want) || e != api.OK {
		t.Errorf("got % x, error %d; want % x", l, int(e), want)
	}
}

func TestLiveOfEachTTL(t *testing.T) {
	for ttl := range 256 {
		for _, p := range []api.IP{{}, plain(), {Proto: 255, Whole: true, More: true}, fields()[2]} {
			p.TTL = byte(ttl)
			b := told(p)
			if ttl < 2 {
				if l, e := ip.Live(b); len(l) != 0 || e != api.ErrNone {
					t.Errorf("Live with TTL %d: % x, error %d", ttl, few(l), int(e))
				}
				continue
			}
			if l, e := ip.Live(b); !bytes.Equal(l, told(older(p))) || e != api.OK {
				t.Errorf("Live(% x) = % x, error %d; want % x", few(b), few(l), int(e), few(told(older(p))))
			}
		}
	}
}

// From 65280 on the checksum carries when 256 is added to it.
func TestLiveOfEachChecksum(t *testing.T) {
	for _, p := range []api.IP{{TTL: 2}, {TTL: 255, Proto: 255}, {TTL: 64, Proto: 17, Src: 0x0a000001, Opts: noise(4, 1), Data: noise(3, 2)}} {
		for check := range 65535 {
			p = checked(p, check)
			b := told(p)
			if words(b)[5] != check {
				t.Fatal("the checksum is not", check, "but", words(b)[5])
			}
			want := told(older(p))
			if l, e := ip.Live(b); !bytes.Equal(l, want) || e != api.OK {
				t.Fatalf("Live(% x) = % x, error %d; want % x", b, l, int(e), want)
			}
		}
	}
}

func TestLiveAtTheCarry(t *testing.T) {
	for _, c := range [][2]int{{0, 256}, {65278, 65534}, {65279, 0}, {65280, 1}, {65281, 2}, {65533, 254}, {65534, 255}} {
		b := told(checked(api.IP{TTL: 3, Proto: 4, Data: []byte{5}}, c[0]))
		l, e := ip.Live(b)
		if e != api.OK || words(l)[5] != c[1] {
			t.Errorf("Live with the checksum %d: % x, error %d; want %d", c[0], l, int(e), c[1])
		}
	}
}

func TestLiveOfAChecksumInPlaceOf0(t *testing.T) {
	for _, p := range []api.IP{{TTL: 2}, {TTL: 255, Proto: 255}, plain()} {
		p = checked(p, 0)
		b := told(p)
		set(b, 10, 65535)
		if l, e := ip.Live(b); !bytes.Equal(l, told(older(p))) || e != api.OK {
			t.Errorf("Live(% x) = % x, error %d", b, l, int(e))
		}
	}
}

func TestLiveLeavesBytesBehindTheLength(t *testing.T) {
	for n := range 5 {
		for _, data := range []int{0, 1, 2, 3} {
			p := with(func(p *api.IP) { p.Data = noise(data, 1) })
			b := append(told(p), noise(n, 2)...)
			if l, e := ip.Live(b); !bytes.Equal(l, told(older(p))) || e != api.OK {
				t.Errorf("Live(% x) = % x, error %d", b, l, int(e))
			}
		}
	}
}

// The error of Get goes first, whatever the TTL is.
func TestLiveOfWhatGetRefuses(t *testing.T) {
	for _, ttl := range []byte{0, 1, 2, 255} {
		b := told(with(func(p *api.IP) { p.TTL = ttl }))
		for n := range len(b) {
			refused(t, "cut off", b[:n], api.ErrShort)
		}
		b[1]++
		refused(t, "a wrong checksum", b, api.ErrSum)
		b[6] |= 0x80
		right(b, 24)
		refused(t, "the highest flag", b, api.ErrForm)
		b[6] &^= 0x80
		set(b, 2, 23)
		right(b, 24)
		refused(t, "a length below the header", b, api.ErrForm)
		b[0] = 0x36
		refused(t, "the first byte", b, api.ErrForm)
	}
}

func TestLiveUntilItIsOld(t *testing.T) {
	p := plain()
	p.TTL = 255
	b := told(p)
	for p.TTL > 1 {
		var e api.Errno
		was := words(b)
		b, e = ip.Live(b)
		p.TTL--
		if e != api.OK || !bytes.Equal(b, told(p)) {
			t.Fatalf("TTL %d: % x, error %d", p.TTL, b, int(e))
		}
		if now := words(b); now[5] != sum.Turn(was[5], was[4], now[4]) {
			t.Fatalf("TTL %d: the checksum %d became %d", p.TTL, was[5], now[5])
		}
	}
	if l, e := ip.Live(b); len(l) != 0 || e != api.ErrNone {
		t.Errorf("at TTL 1: % x, error %d", l, int(e))
	}
}

// P6.4

func TestGetOfLiveIsOlder(t *testing.T) {
	for i, p := range append(fields(), packets(3000)...) {
		b, e := ip.Put(p)
		if e != api.OK {
			t.Fatalf("Put: error %d", int(e))
		}
		l, e := ip.Live(append(b, noise(i%3, 1)...))
		if p.TTL < 2 {
			if len(l) != 0 || e != api.ErrNone {
				t.Fatalf("Live(% x) = % x, error %d", few(b), few(l), int(e))
			}
			continue
		}
		q, e2 := ip.Get(l)
		if e != api.OK || e2 != api.OK || len(l) != len(b) || !equal(q, older(p)) || !ip.Same(q, older(p)) {
			t.Fatalf("Get of Live(% x) = %v, errors %d, %d", few(b), q, int(e), int(e2))
		}
	}
}
