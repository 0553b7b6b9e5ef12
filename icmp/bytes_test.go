package icmp_test

import (
	"bytes"
	"math"
	"testing"

	"towrope/api"
	"towrope/icmp"
)

// refused fails unless Get answers this error of b, and nothing beside it.
func refused(t *testing.T, what string, b []byte, want api.Errno) {
	t.Helper()
	if m, e := icmp.Get(b); !equal(m, api.Icmp{}) || e != want {
		t.Errorf("%s: Get(% x) = % x, error %d; want error %d", what, few(b), few(told(m)), int(e), int(want))
	}
}

// got fails unless Get answers this message of b.
func got(t *testing.T, what string, b []byte, want api.Icmp) {
	t.Helper()
	if m, e := icmp.Get(b); !equal(m, want) || e != api.OK {
		t.Errorf("%s: Get(% x) = % x, error %d", what, few(b), few(told(m)), int(e))
	}
}

// zeroed is a message with the Rest with which its checksum is 0.
func zeroed(m api.Icmp) api.Icmp {
	m.Rest = 0
	m.Rest = uint32(word(told(m), 2))
	return m
}

// P7.1: Put

func TestPut(t *testing.T) {
	for _, c := range []struct {
		m    api.Icmp
		want []byte
	}{
		{api.Icmp{}, []byte{0, 0, 0xff, 0xff, 0, 0, 0, 0}},
		{api.Icmp{Type: 1, Code: 2, Rest: 0x03040506}, []byte{1, 2, 0xf6, 0xf3, 3, 4, 5, 6}},
		{api.Icmp{Type: 1, Code: 2, Rest: 0x03040506, Data: []byte{7}}, []byte{1, 2, 0xef, 0xf3, 3, 4, 5, 6, 7}},
		{api.Icmp{Type: 1, Code: 2, Rest: 0x03040506, Data: []byte{7, 8}}, []byte{1, 2, 0xef, 0xeb, 3, 4, 5, 6, 7, 8}},
		{api.Icmp{Type: 1, Code: 2, Rest: 0x03040506, Data: []byte{7, 8, 9}}, []byte{1, 2, 0xe6, 0xeb, 3, 4, 5, 6, 7, 8, 9}},
		{api.Icmp{Type: 255, Code: 255, Rest: math.MaxUint32}, []byte{255, 255, 0, 0, 255, 255, 255, 255}},
		{api.Icmp{Type: 255, Code: 255, Rest: 1, Data: []byte{0}}, []byte{255, 255, 255, 254, 0, 0, 0, 1, 0}},
	} {
		if b, e := icmp.Put(c.m); !bytes.Equal(b, c.want) || e != api.OK {
			t.Errorf("Put(%v) = % x, error %d; want % x", c.m, b, int(e), c.want)
		}
	}
}

func TestPutOfFieldsAtTheirEnds(t *testing.T) {
	for _, m := range append(fields(), messages(1000)...) {
		if b, e := icmp.Put(m); !bytes.Equal(b, told(m)) || e != api.OK {
			t.Errorf("Put = % x, error %d; want % x", few(b), int(e), few(told(m)))
		}
	}
}

func TestPutOfEachTypeAndCode(t *testing.T) {
	for n := range 65536 {
		m := api.Icmp{Type: uint8(n / 256), Code: uint8(n % 256), Rest: 5, Data: []byte{6}}
		if b, e := icmp.Put(m); !bytes.Equal(b, told(m)) || e != api.OK {
			t.Fatalf("Put(%v) = % x, error %d; want % x", m, b, int(e), told(m))
		}
	}
}

func TestPutOfEachLength(t *testing.T) {
	for n := range 300 {
		m := with(func(m *api.Icmp) { m.Data = noise(n, uint32(n)) })
		if b, e := icmp.Put(m); len(b) != 8+n || !bytes.Equal(b, told(m)) || e != api.OK {
			t.Errorf("Put of %d bytes = % x, error %d; want % x", n, few(b), int(e), few(told(m)))
		}
	}
}

func TestPutOfLongData(t *testing.T) {
	for _, n := range []int{65505, 65506, 65507} {
		m := with(func(m *api.Icmp) { m.Data = noise(n, 1) })
		if b, e := icmp.Put(m); len(b) != n+8 || !bytes.Equal(b, told(m)) || e != api.OK {
			t.Errorf("Put of %d bytes: %d bytes, error %d", n, len(b), int(e))
		}
	}
	for _, n := range []int{65508, 65509, 65515, 65527, 65535, 65536, 131072, 1000000} {
		for _, kind := range []uint8{0, 3, 8, 11, 255} {
			m := api.Icmp{Type: kind, Data: noise(n, 1)}
			if b, e := icmp.Put(m); len(b) != 0 || e != api.ErrLong {
				t.Errorf("Put of %d bytes: %d bytes, error %d; want error %d", n, len(b), int(e), int(api.ErrLong))
			}
		}
	}
}

// The checksum takes every value: 65535 where all else is 0, and 0 where all else comes to 65535.
func TestPutOfEachChecksum(t *testing.T) {
	seen := map[int]bool{}
	for rest := range 65536 {
		m := api.Icmp{Rest: uint32(rest)}
		b, e := icmp.Put(m)
		if !bytes.Equal(b, told(m)) || e != api.OK {
			t.Fatalf("Put with Rest %d = % x, error %d; want % x", rest, b, int(e), told(m))
		}
		seen[word(b, 2)] = true
	}
	if len(seen) != 65536 {
		t.Error("not all checksums:", len(seen))
	}
}

func TestPutOfAChecksumOf0(t *testing.T) {
	for n := range 40 {
		m := zeroed(with(func(m *api.Icmp) { m.Data = noise(n, uint32(n)) }))
		b, e := icmp.Put(m)
		if !bytes.Equal(b, told(m)) || word(b, 2) != 0 || e != api.OK {
			t.Errorf("Put = % x, error %d; want % x", b, int(e), told(m))
		}
	}
}

// P7.1: Get

func TestGet(t *testing.T) {
	got(t, "no data", []byte{1, 2, 0xf6, 0xf3, 3, 4, 5, 6}, api.Icmp{Type: 1, Code: 2, Rest: 0x03040506})
	got(t, "a byte", []byte{1, 2, 0xef, 0xf3, 3, 4, 5, 6, 7}, api.Icmp{Type: 1, Code: 2, Rest: 0x03040506, Data: []byte{7}})
	got(t, "three bytes", []byte{1, 2, 0xe6, 0xeb, 3, 4, 5, 6, 7, 8, 9}, api.Icmp{Type: 1, Code: 2, Rest: 0x03040506, Data: []byte{7, 8, 9}})
	got(t, "nothing but a checksum", []byte{0, 0, 255, 255, 0, 0, 0, 0}, api.Icmp{})
}

func TestGetOfFieldsAtTheirEnds(t *testing.T) {
	for _, m := range fields() {
		got(t, "a field at its end", told(m), m)
	}
}

func TestGetOfFewBytes(t *testing.T) {
	refused(t, "nil", nil, api.ErrShort)
	refused(t, "empty", []byte{}, api.ErrShort)
	whole := told(plain())
	for n := range 8 {
		refused(t, "cut off", whole[:n], api.ErrShort) // what lies in the unused capacity is not read
		refused(t, "zeros", make([]byte, n), api.ErrShort)
		refused(t, "right bytes", bytes.Repeat([]byte{255}, n), api.ErrShort)
	}
	refused(t, "right bytes of another kind", []byte{1, 0, 0xfe, 0xff}, api.ErrShort)
	refused(t, "zeros that are enough", make([]byte, 8), api.ErrSum)
	got(t, "8 bytes", bytes.Repeat([]byte{255}, 8), api.Icmp{Type: 255, Code: 255, Rest: math.MaxUint32})
}

func TestGetOfEachLength(t *testing.T) {
	for n := range 300 {
		m := with(func(m *api.Icmp) { m.Data = noise(n, uint32(n)) })
		b := told(m)
		got(t, "each length", b, m)
		got(t, "each length, cut from more", append(bytes.Clone(b), 1, 2, 3)[:len(b)], m)
		b[len(b)-1]++
		refused(t, "another last byte", b, api.ErrSum)
	}
}

// No limit is named for Get: what Put would not write is read.
func TestGetOfLongData(t *testing.T) {
	for _, n := range []int{65506, 65507, 65508, 65528, 65536, 100001} {
		m := with(func(m *api.Icmp) { m.Data = noise(n, 1) })
		b := told(m)
		got(t, "long", b, m)
		b[len(b)/2]++
		refused(t, "long with another byte", b, api.ErrSum)
	}
}

func TestGetOfAWrongChecksum(t *testing.T) {
	for _, m := range []api.Icmp{
		{},
		plain(),
		zeroed(plain()),
		{Type: 3, Code: 255, Rest: 9, Data: noise(40, 1)},
		{Type: 255, Code: 255, Rest: math.MaxUint32, Data: []byte{255}},
	} {
		b := told(m)
		for i := range 8 * len(b) {
			b[i/8] ^= 1 << (i % 8)
			refused(t, "a bit turned", b, api.ErrSum)
			b[i/8] ^= 1 << (i % 8)
		}
		set(b, 2, 0)
		rest := total(b)
		for n := range 65536 {
			set(b, 2, n)
			if folded(rest+n) == 65535 {
				got(t, "the right checksum", b, m)
				continue
			}
			if q, e := icmp.Get(b); !equal(q, api.Icmp{}) || e != api.ErrSum {
				t.Fatalf("Get(% x): error %d; want error %d", b, int(e), int(api.ErrSum))
			}
		}
	}
}

func TestGetOfAChecksumInPlaceOf0(t *testing.T) {
	for n := range 40 {
		m := zeroed(with(func(m *api.Icmp) { m.Data = noise(n, uint32(n)) }))
		b := told(m)
		got(t, "the checksum 0", b, m)
		set(b, 2, 65535)
		got(t, "the checksum 65535 in place of 0", b, m)
		set(b, 2, 65534)
		refused(t, "the checksum 65534 in place of 0", b, api.ErrSum)
		set(b, 2, 1)
		refused(t, "the checksum 1 in place of 0", b, api.ErrSum)
	}
	refused(t, "the checksum 0 in place of 65535", make([]byte, 8), api.ErrSum)
	refused(t, "the checksum 0 in place of 65535", make([]byte, 15), api.ErrSum)
}

// P7.4

func TestGetReturnsWhatWasPut(t *testing.T) {
	for _, m := range append(fields(), messages(3000)...) {
		b, e := icmp.Put(m)
		n, e2 := icmp.Get(b)
		if e != api.OK || e2 != api.OK || !equal(m, n) || !icmp.Same(m, n) {
			t.Fatalf("Get(% x): errors %d, %d", few(b), int(e), int(e2))
		}
	}
}

func TestEchoAndReplyOverBytes(t *testing.T) {
	for n := range 200 {
		data := noise(n, uint32(n))
		b, e := icmp.Put(icmp.Echo(uint16(300*n), uint16(65535-n), data))
		asked, e2 := icmp.Get(b)
		answer, e3 := icmp.Reply(asked)
		b, e4 := icmp.Put(answer)
		heard, e5 := icmp.Get(b)
		want := api.Icmp{Rest: uint32(300*n)<<16 | uint32(65535-n), Data: data}
		if e != api.OK || e2 != api.OK || e3 != api.OK || e4 != api.OK || e5 != api.OK || !equal(heard, want) {
			t.Errorf("an echo of %d bytes: % x, errors %d, %d, %d, %d, %d", n, few(b), int(e), int(e2), int(e3), int(e4), int(e5))
		}
	}
}

// Of any bytes: what Get takes, Put gives again, but for the two checksums that are one.
func TestAnyBytes(t *testing.T) {
	taken := 0
	for i := range 30000 {
		b := noise(i%60, uint32(i))
		if i%3 != 0 && len(b) > 7 {
			right(b)
		}
		m, e := icmp.Get(b)
		if e != api.OK {
			want := api.ErrSum
			if len(b) < 8 {
				want = api.ErrShort
			}
			refused(t, "refused", b, want)
			continue
		}
		taken++
		again, e := icmp.Put(m)
		if e != api.OK || !bytes.Equal(again, b) && word(b, 2) != 65535 {
			t.Fatalf("Get and Put of % x: % x, error %d", b, again, int(e))
		}
	}
	if taken < 15000 {
		t.Error("too few of them are messages:", taken)
	}
}
