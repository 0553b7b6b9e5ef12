package ip_test

import (
	"bytes"
	"testing"

	"towrope/api"
	"towrope/ip"
)

// P6.2: Put

func TestPutOfTheExample(t *testing.T) {
	b, e := ip.Put(api.IP{TTL: 64, Proto: 17, Src: 0x0a000001, Dst: 0x0a000002, Data: []byte{1}})
	want := []byte{0x45, 0, 0, 0x15, 0, 0, 0, 0, 0x40, 0x11, 0x66, 0xd6, 0x0a, 0, 0, 1, 0x0a, 0, 0, 2, 1}
	if !bytes.Equal(b, want) || e != api.OK {
		t.Errorf("got % x, error %d; want % x", b, int(e), want)
	}
}

func TestPut(t *testing.T) {
	for _, c := range []struct {
		p    api.IP
		want []byte
	}{
		{api.IP{}, []byte{0x45, 0, 0, 20, 0, 0, 0, 0, 0, 0, 0xba, 0xeb, 0, 0, 0, 0, 0, 0, 0, 0}},
		{
			api.IP{Tos: 1, Ident: 0x0203, Whole: true, Off: 0x0405, TTL: 6, Proto: 7, Src: 0x08090a0b, Dst: 0x0c0d0e0f, Data: []byte{16, 17, 18}},
			[]byte{0x45, 1, 0, 23, 2, 3, 0x44, 5, 6, 7, 0x42, 0xa8, 8, 9, 10, 11, 12, 13, 14, 15, 16, 17, 18},
		},
		{
			api.IP{More: true, Off: 8191, Opts: []byte{1, 2, 3, 4}},
			[]byte{0x46, 0, 0, 24, 0, 0, 0x3f, 0xff, 0, 0, 0x75, 0xe2, 0, 0, 0, 0, 0, 0, 0, 0, 1, 2, 3, 4},
		},
		{
			api.IP{Whole: true, More: true, Opts: []byte{0, 0, 0, 0, 0, 0, 0, 9}, Data: []byte{5}},
			[]byte{0x47, 0, 0, 29, 0, 0, 0x60, 0, 0, 0, 0x58, 0xd9, 0, 0, 0, 0, 0, 0, 0, 0, 0, 0, 0, 0, 0, 0, 0, 9, 5},
		},
	} {
		if b, e := ip.Put(c.p); !bytes.Equal(b, c.want) || e != api.OK {
			t.Errorf("Put(%v) = % x, error %d; want % x", c.p, b, int(e), c.want)
		}
	}
}

func TestPutOfFieldsAtTheirEnds(t *testing.T) {
	for _, p := range fields() {
		if b, e := ip.Put(p); !bytes.Equal(b, told(p)) || e != api.OK {
			t.Errorf("Put = % x, error %d; want % x", few(b), int(e), few(told(p)))
		}
	}
}

func TestPutOfEachNumberOfOptions(t *testing.T) {
	for n := 0; n <= 40; n += 4 {
		for _, size := range []int{0, 1, 2, 7, 8} {
			p := with(func(p *api.IP) { p.Opts, p.Data = noise(n, uint32(n)), noise(size, 1) })
			b, e := ip.Put(p)
			if !bytes.Equal(b, told(p)) || e != api.OK {
				t.Errorf("Put with %d and %d bytes = % x, error %d; want % x", n, size, b, int(e), told(p))
			}
		}
	}
}

func TestPutOfEachOffAndFlags(t *testing.T) {
	for off := range 8192 {
		for _, flags := range [][2]bool{{false, false}, {false, true}, {true, false}, {true, true}} {
			p := api.IP{Off: off, Whole: flags[0], More: flags[1]}
			if b, e := ip.Put(p); !bytes.Equal(b, told(p)) || e != api.OK {
				t.Fatalf("Put with Off %d, %v = % x, error %d; want % x", off, flags, b, int(e), told(p))
			}
		}
	}
}

// The checksum is that of the header alone, and takes every value but 65535, for no header has a sum of 0.
func TestPutOfEachChecksum(t *testing.T) {
	seen := map[int]bool{}
	for ident := range 65536 {
		p := api.IP{Ident: uint16(ident), Data: []byte{byte(ident), byte(ident >> 8)}}
		b, e := ip.Put(p)
		if !bytes.Equal(b, told(p)) || e != api.OK {
			t.Fatalf("Put with Ident %d = % x, error %d; want % x", ident, b, int(e), told(p))
		}
		seen[256*int(b[10])+int(b[11])] = true
	}
	if len(seen) != 65535 || seen[65535] {
		t.Error("other checksums than all of 0 to 65534:", len(seen), seen[65535])
	}
}

func TestPutOfWhatMayNotBe(t *testing.T) {
	for _, c := range refusals() {
		if b, e := ip.Put(c.p); len(b) != 0 || e != c.e {
			t.Errorf("Put with %s = % x, error %d; want error %d", c.what, few(b), int(e), int(c.e))
		}
	}
}
