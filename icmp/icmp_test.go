package icmp_test

import (
	"bytes"
	"math"
	"reflect"
	"testing"

	"towrope/api"
	"towrope/icmp"
)

// folded is the ones' complement sum of words, told by their sum as a number: 1 to 65535 stand for the rests by 65535, and only zeros make 0.
func folded(total int) int {
	if total == 0 {
		return 0
	}
	return (total-1)%65535 + 1
}

// total adds the words of b without bringing a carry round; a single last byte is the upper half of a word.
func total(b []byte) int {
	n := 0
	for i, c := range b {
		if i%2 == 0 {
			n += 256 * int(c)
		} else {
			n += int(c)
		}
	}
	return n
}

// word reads two bytes.
func word(b []byte, at int) int { return 256*int(b[at]) + int(b[at+1]) }

// set writes a word at index at.
func set(b []byte, at, n int) { b[at], b[at+1] = byte(n/256), byte(n%256) }

// right writes the checksum with which b is right.
func right(b []byte) {
	set(b, 2, 0)
	set(b, 2, 65535-folded(total(b)))
}

// told writes a message out in another way than the program: one byte after the other.
func told(m api.Icmp) []byte {
	rest := int(m.Rest)
	b := append([]byte{m.Type, m.Code, 0, 0, byte(rest / 16777216), byte(rest / 65536 % 256), byte(rest / 256 % 256), byte(rest % 256)}, m.Data...)
	right(b)
	return b
}

// noise returns n bytes that follow no plain pattern, other ones for each seed.
func noise(n int, seed uint32) []byte {
	b := make([]byte, n)
	for i := range b {
		seed = seed*1664525 + 1013904223
		b[i] = byte(seed >> 24)
	}
	return b
}

// plain is a message no field of which is at an end, and no two of which are the same.
func plain() api.Icmp {
	return api.Icmp{Type: 8, Code: 1, Rest: 0x23456789, Data: []byte{9, 8, 7, 6, 5}}
}

// with is the message of plain with one thing changed.
func with(change func(m *api.Icmp)) api.Icmp {
	m := plain()
	change(&m)
	return m
}

// fields are messages of which each has one field at its least or its greatest, alone or with all the others.
func fields() []api.Icmp {
	all := []api.Icmp{
		{},
		plain(),
		{Type: 255, Code: 255, Rest: math.MaxUint32, Data: bytes.Repeat([]byte{255}, 65507)},
		{Type: 255, Code: 255, Rest: math.MaxUint32},
		{Data: make([]byte, 65507)},
	}
	for _, change := range []func(m *api.Icmp){
		func(m *api.Icmp) { m.Type = 0 },
		func(m *api.Icmp) { m.Type = 255 },
		func(m *api.Icmp) { m.Code = 0 },
		func(m *api.Icmp) { m.Code = 255 },
		func(m *api.Icmp) { m.Rest = 0 },
		func(m *api.Icmp) { m.Rest = 0x0000ffff },
		func(m *api.Icmp) { m.Rest = 0xffff0000 },
		func(m *api.Icmp) { m.Rest = math.MaxUint32 },
		func(m *api.Icmp) { m.Data = nil },
		func(m *api.Icmp) { m.Data = []byte{} },
		func(m *api.Icmp) { m.Data = []byte{0} },
		func(m *api.Icmp) { m.Data = []byte{255} },
		func(m *api.Icmp) { m.Data = noise(2, 1) },
		func(m *api.Icmp) { m.Data = noise(7, 2) },
		func(m *api.Icmp) { m.Data = noise(56, 3) },
		func(m *api.Icmp) { m.Data = noise(1472, 4) },
		func(m *api.Icmp) { m.Data = noise(65506, 5) },
		func(m *api.Icmp) { m.Data = noise(65507, 6) },
	} {
		all = append(all, with(change))
	}
	return all
}

// messages are n messages of no plain pattern.
func messages(n int) []api.Icmp {
	var all []api.Icmp
	for i := range n {
		b := noise(7, uint32(7919*i))
		rest := uint32(b[2])<<24 | uint32(b[3])<<16 | uint32(b[4])<<8 | uint32(b[5])
		all = append(all, api.Icmp{Type: b[0], Code: b[1], Rest: rest, Data: noise(int(b[6]), uint32(i))})
	}
	return all
}

// equal compares messages, nil and empty slices being the same.
func equal(m, n api.Icmp) bool {
	if len(m.Data) == 0 && len(n.Data) == 0 {
		m.Data, n.Data = nil, nil
	}
	return reflect.DeepEqual(m, n)
}

// few tells bytes, or the beginning of them.
func few(b []byte) []byte { return b[:min(len(b), 64)] }

// The chapter's example

func TestExample(t *testing.T) {
	want := []byte{8, 0, 0xf7, 0xfc, 0, 1, 0, 2}
	for _, data := range [][]byte{nil, {}} {
		b, e := icmp.Put(icmp.Echo(1, 2, data))
		if !bytes.Equal(b, want) || e != api.OK {
			t.Errorf("Put of Echo: % x, error %d; want % x", b, int(e), want)
		}
	}
	m, e := icmp.Get(want)
	if !equal(m, api.Icmp{Type: 8, Rest: 0x00010002}) || e != api.OK {
		t.Errorf("Get: %v, error %d", m, int(e))
	}
}

// P7.1: Same

func TestSame(t *testing.T) {
	changes := map[string]func(m *api.Icmp){
		"Type":             func(m *api.Icmp) { m.Type ^= 1 },
		"Type high":        func(m *api.Icmp) { m.Type ^= 128 },
		"Code":             func(m *api.Icmp) { m.Code ^= 1 },
		"Code high":        func(m *api.Icmp) { m.Code ^= 128 },
		"Rest":             func(m *api.Icmp) { m.Rest ^= 1 },
		"Rest at 8":        func(m *api.Icmp) { m.Rest ^= 1 << 8 },
		"Rest at 16":       func(m *api.Icmp) { m.Rest ^= 1 << 16 },
		"Rest high":        func(m *api.Icmp) { m.Rest ^= 1 << 31 },
		"a longer Data":    func(m *api.Icmp) { m.Data = append(bytes.Clone(m.Data), 0) },
		"Data in front":    func(m *api.Icmp) { m.Data = append([]byte{0}, m.Data...) },
		"Type and Code":    func(m *api.Icmp) { m.Type++; m.Code-- },
		"all but the Data": func(m *api.Icmp) { m.Type++; m.Code++; m.Rest++ },
	}
	for i, m := range fields() {
		n := m
		n.Data = bytes.Clone(m.Data)
		if !icmp.Same(m, m) || !icmp.Same(m, n) || !icmp.Same(n, m) {
			t.Errorf("message %d is not the same as itself", i)
		}
		for name, change := range changes {
			n := m
			change(&n)
			if icmp.Same(m, n) || icmp.Same(n, m) {
				t.Errorf("message %d is the same as with another field: %s", i, name)
			}
		}
	}
}

func TestSameOfBytes(t *testing.T) {
	for i := range 8 {
		m, n := api.Icmp{Data: noise(8, 1)}, api.Icmp{Data: noise(8, 1)}
		n.Data[i]++
		if icmp.Same(m, n) || icmp.Same(n, m) {
			t.Error("the same with another byte of Data:", i)
		}
		n.Data = m.Data[:i]
		if icmp.Same(m, n) || icmp.Same(n, m) {
			t.Error("the same with less of Data:", i)
		}
	}
	if icmp.Same(api.Icmp{Type: 1}, api.Icmp{Code: 1}) || icmp.Same(api.Icmp{Code: 1}, api.Icmp{Rest: 1}) || icmp.Same(api.Icmp{Rest: 1}, api.Icmp{Type: 1}) {
		t.Error("fields that are changed for one another are the same")
	}
}

func TestSameOfNilAndEmpty(t *testing.T) {
	for _, m := range []api.Icmp{{}, {Type: 1, Code: 2, Rest: 3}} {
		n := m
		n.Data = make([]byte, 0, 9)
		if !icmp.Same(m, n) || !icmp.Same(n, m) || !icmp.Same(m, m) || !icmp.Same(n, n) {
			t.Error("nil is not the same as empty")
		}
		n.Data = []byte{0}
		if icmp.Same(m, n) || icmp.Same(n, m) {
			t.Error("nil is the same as a byte 0")
		}
	}
}

// What may not be put is compared too.
func TestSameOfLongData(t *testing.T) {
	m, n := api.Icmp{Data: noise(70000, 1)}, api.Icmp{Data: noise(70000, 1)}
	if !icmp.Same(m, n) {
		t.Error("not the same")
	}
	n.Data[69999]++
	if icmp.Same(m, n) {
		t.Error("the same with another last byte")
	}
}

// P7.2: Echo

func TestEcho(t *testing.T) {
	for _, c := range []struct {
		ident, no uint16
		rest      uint32
	}{
		{0, 0, 0},
		{1, 2, 0x00010002},
		{0x1234, 0x5678, 0x12345678},
		{0, 65535, 0x0000ffff},
		{65535, 0, 0xffff0000},
		{65535, 65535, 0xffffffff},
		{0x8000, 0x8000, 0x80008000},
		{0x00ff, 0xff00, 0x00ffff00},
		{0xff00, 0x00ff, 0xff0000ff},
	} {
		for _, data := range [][]byte{nil, {}, {7}, noise(56, 1), noise(65507, 2), noise(65508, 3), noise(70000, 4)} {
			want := api.Icmp{Type: 8, Code: 0, Rest: c.rest, Data: data}
			if m := icmp.Echo(c.ident, c.no, data); !equal(m, want) {
				t.Errorf("Echo(%d, %d) of %d bytes: Type %d, Code %d, Rest %x, %d bytes", c.ident, c.no, len(data), m.Type, m.Code, m.Rest, len(m.Data))
			}
		}
	}
}

func TestEchoOfEachNumber(t *testing.T) {
	for n := range 65536 {
		m := icmp.Echo(uint16(n), uint16(65535-n), []byte{1})
		if !equal(m, api.Icmp{Type: 8, Rest: uint32(65536*n + 65535 - n), Data: []byte{1}}) {
			t.Fatalf("Echo(%d, %d) = %v", n, 65535-n, m)
		}
	}
}

// P7.2: Reply

func TestReplyOfEachTypeAndCode(t *testing.T) {
	for kind := range 256 {
		for code := range 256 {
			m := api.Icmp{Type: uint8(kind), Code: uint8(code), Rest: 0x01020304, Data: []byte{5, 6}}
			r, e := icmp.Reply(m)
			if kind == 8 && code == 0 {
				if !equal(r, api.Icmp{Type: 0, Code: 0, Rest: 0x01020304, Data: []byte{5, 6}}) || e != api.OK {
					t.Errorf("Reply(%v) = %v, error %d", m, r, int(e))
				}
				continue
			}
			if !equal(r, api.Icmp{}) || e != api.ErrNone {
				t.Errorf("Reply(%v) = %v, error %d; want error %d", m, r, int(e), int(api.ErrNone))
			}
		}
	}
}

func TestReplyOfFields(t *testing.T) {
	for _, m := range append(fields(), messages(300)...) {
		m.Type, m.Code = 8, 0
		want := m
		want.Type = 0
		if r, e := icmp.Reply(m); !equal(r, want) || e != api.OK {
			t.Errorf("Reply of % x: % x, error %d", few(told(m)), few(told(r)), int(e))
		}
		if r, e := icmp.Reply(want); !equal(r, api.Icmp{}) || e != api.ErrNone {
			t.Errorf("Reply of a reply: % x, error %d", few(told(r)), int(e))
		}
	}
}

// What may not be put is answered too: no other error is named.
func TestReplyOfLongData(t *testing.T) {
	data := noise(65508, 1)
	r, e := icmp.Reply(icmp.Echo(3, 4, data))
	if !equal(r, api.Icmp{Rest: 0x00030004, Data: data}) || e != api.OK {
		t.Errorf("Reply: %d bytes, error %d", len(r.Data), int(e))
	}
}

// P7.3: Error

func TestErrorOfEachType(t *testing.T) {
	for kind := range 256 {
		for code := range 256 {
			want := kind == 3 || kind == 11
			for _, m := range []api.Icmp{
				{Type: uint8(kind), Code: uint8(code)},
				{Type: uint8(kind), Code: uint8(code), Rest: 0x030b030b, Data: []byte{3, 11}},
			} {
				if got := icmp.Error(m); got != want {
					t.Errorf("Error(%v) = %v", m, got)
				}
			}
		}
	}
}
