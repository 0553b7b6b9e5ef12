package octet_test

import (
	"bytes"
	"math"
	"testing"

	"towrope/api"
	"towrope/octet"
)

// count returns the n bytes 1, 2, 3 ..: no two neighbours are the same, and none of the first 255 is 0.
func count(n int) []byte {
	b := make([]byte, n)
	for i := range b {
		b[i] = byte(i + 1)
	}
	return b
}

// want fails unless a call answered just these bytes and this error.
func want(t *testing.T, what string, got []byte, e api.Errno, bytesWanted []byte, eWanted api.Errno) {
	t.Helper()
	if !bytes.Equal(got, bytesWanted) || e != eWanted {
		t.Errorf("%s: got % x, error %d; want % x, error %d", what, got, int(e), bytesWanted, int(eWanted))
	}
}

// P1.1

func TestPut16(t *testing.T) {
	for _, c := range []struct {
		b    []byte
		n    int
		want []byte
	}{
		{nil, 258, []byte{1, 2}},
		{[]byte{}, 258, []byte{1, 2}},
		{[]byte{7, 8, 9}, 0x0a0b, []byte{7, 8, 9, 0x0a, 0x0b}},
		{[]byte{9}, 0, []byte{9, 0, 0}},
		{nil, 255, []byte{0, 255}},
		{nil, 256, []byte{1, 0}},
		{nil, 65535, []byte{255, 255}},
		{nil, 65536, []byte{0, 0}},
		{nil, 65537, []byte{0, 1}},
		{nil, 0x12345678, []byte{0x56, 0x78}},
		{nil, 1 << 40, []byte{0, 0}},
		{nil, 1<<40 + 0x0102, []byte{1, 2}},
		{nil, -1, []byte{255, 255}},
		{nil, -2, []byte{255, 254}},
		{nil, -65536, []byte{0, 0}},
		{nil, -65537, []byte{255, 255}},
		{nil, math.MaxInt, []byte{255, 255}},
		{nil, math.MinInt, []byte{0, 0}},
	} {
		want(t, "Put16", octet.Put16(c.b, c.n), api.OK, c.want, api.OK)
	}
}

func TestPut32(t *testing.T) {
	for _, c := range []struct {
		b    []byte
		n    uint32
		want []byte
	}{
		{nil, 0, []byte{0, 0, 0, 0}},
		{[]byte{}, 1, []byte{0, 0, 0, 1}},
		{nil, 256, []byte{0, 0, 1, 0}},
		{nil, 65536, []byte{0, 1, 0, 0}},
		{[]byte{9, 8}, 0x01020304, []byte{9, 8, 1, 2, 3, 4}},
		{nil, 1 << 31, []byte{128, 0, 0, 0}},
		{nil, math.MaxUint32, []byte{255, 255, 255, 255}},
	} {
		want(t, "Put32", octet.Put32(c.b, c.n), api.OK, c.want, api.OK)
	}
}

// P1.2

func TestGet(t *testing.T) {
	b := []byte{0, 0, 1, 0, 0x80, 0xff}
	for _, c := range []struct {
		b   []byte
		at  int
		n16 int
		e16 api.Errno
		n32 uint32
		e32 api.Errno
	}{
		{b, 0, 0, api.OK, 256, api.OK},
		{b, 1, 1, api.OK, 0x010080, api.OK},
		{b, 2, 256, api.OK, 0x010080ff, api.OK},
		{b, 3, 0x80, api.OK, 0, api.ErrShort},
		{b, 4, 0x80ff, api.OK, 0, api.ErrShort},
		{b, 5, 0, api.ErrShort, 0, api.ErrShort},
		{b, 6, 0, api.ErrShort, 0, api.ErrShort},
		{b, 7, 0, api.ErrRange, 0, api.ErrRange},
		{b, -1, 0, api.ErrRange, 0, api.ErrRange},
		{b, math.MaxInt, 0, api.ErrRange, 0, api.ErrRange},
		{b, math.MinInt, 0, api.ErrRange, 0, api.ErrRange},
		{[]byte{255, 255, 255, 255}, 0, 65535, api.OK, math.MaxUint32, api.OK},
		{[]byte{128, 1, 2, 3}, 0, 0x8001, api.OK, 0x80010203, api.OK},
		{nil, 0, 0, api.ErrShort, 0, api.ErrShort},
		{[]byte{}, 0, 0, api.ErrShort, 0, api.ErrShort},
		{nil, 1, 0, api.ErrRange, 0, api.ErrRange},
		{nil, -1, 0, api.ErrRange, 0, api.ErrRange},
	} {
		if n, e := octet.Get16(c.b, c.at); n != c.n16 || e != c.e16 {
			t.Errorf("Get16(% x, %d) = %d, error %d; want %d, error %d", c.b, c.at, n, int(e), c.n16, int(c.e16))
		}
		if n, e := octet.Get32(c.b, c.at); n != c.n32 || e != c.e32 {
			t.Errorf("Get32(% x, %d) = %d, error %d; want %d, error %d", c.b, c.at, n, int(e), c.n32, int(c.e32))
		}
	}
}

// What lies in the unused capacity is not of the slice, and is not read.
func TestGetStopsAtTheLength(t *testing.T) {
	b := count(8)[:3]
	if n, e := octet.Get16(b, 2); n != 0 || e != api.ErrShort {
		t.Error(n, e)
	}
	if n, e := octet.Get32(b, 0); n != 0 || e != api.ErrShort {
		t.Error(n, e)
	}
	if n, e := octet.Get16(b, 4); n != 0 || e != api.ErrRange {
		t.Error(n, e)
	}
	if l, e := octet.Cut(b, 1, 3); len(l) != 0 || e != api.ErrShort {
		t.Error(l, e)
	}
}

func TestCut(t *testing.T) {
	b := count(5)
	for _, c := range []struct {
		b     []byte
		at, n int
		want  []byte
		e     api.Errno
	}{
		{b, 0, 5, []byte{1, 2, 3, 4, 5}, api.OK},
		{b, 0, 2, []byte{1, 2}, api.OK},
		{b, 2, 2, []byte{3, 4}, api.OK},
		{b, 4, 1, []byte{5}, api.OK},
		{b, 0, 0, nil, api.OK},
		{b, 3, 0, nil, api.OK},
		{b, 5, 0, nil, api.OK},
		{nil, 0, 0, nil, api.OK},
		{b, 0, 6, nil, api.ErrShort},
		{b, 4, 2, nil, api.ErrShort},
		{b, 5, 1, nil, api.ErrShort},
		{nil, 0, 1, nil, api.ErrShort},
		{b, 0, math.MaxInt, nil, api.ErrShort},
		{b, 5, math.MaxInt, nil, api.ErrShort}, // at+n is beyond what an int holds
		{b, 0, -1, nil, api.ErrArg},
		{b, 5, -1, nil, api.ErrArg},
		{b, 3, math.MinInt, nil, api.ErrArg},
		{nil, 0, -1, nil, api.ErrArg},
		{b, -1, 1, nil, api.ErrRange},
		{b, 6, 0, nil, api.ErrRange},
		{nil, 1, 0, nil, api.ErrRange},
		{b, math.MaxInt, 0, nil, api.ErrRange},
		{b, math.MaxInt, math.MaxInt, nil, api.ErrRange},
		{b, math.MinInt, math.MinInt, nil, api.ErrRange},
		{b, -1, -1, nil, api.ErrRange}, // the error named first
		{b, 6, -1, nil, api.ErrRange},
		{b, 6, 9, nil, api.ErrRange},
	} {
		l, e := octet.Cut(c.b, c.at, c.n)
		want(t, "Cut", l, e, c.want, c.e)
	}
}

// P1.3

func TestZeros(t *testing.T) {
	for _, n := range []int{0, 1, 2, 3, 255, 256, 65534, 65535} {
		l, e := octet.Zeros(n)
		want(t, "Zeros", l, e, make([]byte, n), api.OK)
	}
	for _, c := range []struct {
		n int
		e api.Errno
	}{{-1, api.ErrArg}, {-65536, api.ErrArg}, {math.MinInt, api.ErrArg}, {65536, api.ErrLong}, {1 << 40, api.ErrLong}, {math.MaxInt, api.ErrLong}} {
		l, e := octet.Zeros(c.n)
		want(t, "Zeros", l, e, nil, c.e)
	}
}

func TestPad(t *testing.T) {
	for _, c := range []struct {
		b    []byte
		unit int
		want []byte
	}{
		{[]byte{1, 2, 3}, 4, []byte{1, 2, 3, 0}},
		{[]byte{1, 2, 3, 4}, 4, []byte{1, 2, 3, 4}},
		{[]byte{1, 2, 3, 4, 5}, 4, []byte{1, 2, 3, 4, 5, 0, 0, 0}},
		{[]byte{1, 2, 3}, 1, []byte{1, 2, 3}},
		{[]byte{9}, 64, append([]byte{9}, make([]byte, 63)...)},
		{nil, 1, nil},
		{nil, 64, nil},
		{[]byte{}, 8, nil},
	} {
		l, e := octet.Pad(c.b, c.unit)
		want(t, "Pad", l, e, c.want, api.OK)
	}
	for _, unit := range []int{0, -1, -4, 65, 66, 128, math.MaxInt, math.MinInt} {
		for _, b := range [][]byte{nil, {1, 2, 3}} {
			l, e := octet.Pad(b, unit)
			want(t, "Pad", l, e, nil, api.ErrArg)
		}
	}
}

func TestPadByEachUnit(t *testing.T) {
	for unit := 1; unit <= 64; unit++ {
		for n := range 200 {
			b := count(n)
			l, e := octet.Pad(b, unit)
			if e != api.OK || len(l)%unit != 0 || len(l) < n || len(l) >= n+unit {
				t.Fatal(unit, n, len(l), e)
			}
			if !bytes.Equal(l[:n], b) || !bytes.Equal(l[n:], make([]byte, len(l)-n)) {
				t.Fatal(unit, n, l)
			}
		}
	}
}

func TestPadSetsNoLengthLimit(t *testing.T) {
	l, e := octet.Pad(count(api.MaxPacket), 64)
	want(t, "Pad", l, e, append(count(api.MaxPacket), 0), api.OK)
}

func TestJoin(t *testing.T) {
	b := []byte{1, 2}
	for _, c := range []struct {
		l    [][]byte
		want []byte
	}{
		{nil, nil},
		{[][]byte{}, nil},
		{[][]byte{nil}, nil},
		{[][]byte{nil, {}, nil}, nil},
		{[][]byte{b}, []byte{1, 2}},
		{[][]byte{{1}, nil, {2, 3}}, []byte{1, 2, 3}},
		{[][]byte{nil, {1}, {}}, []byte{1}},
		{[][]byte{{3}, {2}, {1}}, []byte{3, 2, 1}},
		{[][]byte{b, b, b}, []byte{1, 2, 1, 2, 1, 2}},
	} {
		want(t, "Join", octet.Join(c.l...), api.OK, c.want, api.OK)
	}
	want(t, "Join of nothing", octet.Join(), api.OK, nil, api.OK)
	if l := octet.Join(count(65535), count(65535)); len(l) != 131070 {
		t.Error("Join has no limit, but got a length of", len(l))
	}
}

// P1.4

func TestNumbersAreReadBack(t *testing.T) {
	for n := range 65536 {
		l := octet.Put16([]byte{1, 2, 3}, n)
		if got, e := octet.Get16(l, 3); got != n || e != api.OK || len(l) != 5 {
			t.Fatal(n, got, e)
		}
	}
	n := uint32(1)
	for range 20000 {
		n = n*1664525 + 1013904223 // each step another number, of all sizes
		l := octet.Put32([]byte{1}, n)
		if got, e := octet.Get32(l, 1); got != n || e != api.OK || len(l) != 5 {
			t.Fatal(n, got, e)
		}
	}
	var l []byte
	for i := range 100 {
		l = octet.Put32(octet.Put16(l, 655*i), uint32(i)<<24|uint32(i))
	}
	for i := range 100 {
		small, e1 := octet.Get16(l, 6*i)
		great, e2 := octet.Get32(l, 6*i+2)
		if small != 655*i || great != uint32(i)<<24|uint32(i) || e1 != api.OK || e2 != api.OK {
			t.Fatal(i, small, e1, great, e2)
		}
	}
}

func TestPiecesAreJoinedToTheOriginal(t *testing.T) {
	b := count(20)
	for i := 0; i <= len(b); i++ {
		for j := i; j <= len(b); j++ {
			one, e1 := octet.Cut(b, 0, i)
			two, e2 := octet.Cut(b, i, j-i)
			three, e3 := octet.Cut(b, j, len(b)-j)
			if e1 != api.OK || e2 != api.OK || e3 != api.OK {
				t.Fatal(i, j, e1, e2, e3)
			}
			want(t, "Join of what was cut", octet.Join(one, two, three), api.OK, b, api.OK)
		}
	}
}
