package addr_test

import (
	"fmt"
	"strings"
	"testing"

	"towrope/addr"
	"towrope/api"
)

// of makes an address of its four bytes.
func of(a, b, c, d int) api.Addr {
	return api.Addr(a<<24 | b<<16 | c<<8 | d)
}

// edges are addresses at which something begins or ends.
func edges() []api.Addr {
	all := []api.Addr{0, 1, 2, 0xfffffffd, 0xfffffffe, 0xffffffff, 0x55555555, 0xaaaaaaaa, 0x12345678, 0x80000001}
	for bit := range 32 {
		one := api.Addr(1) << bit
		all = append(all, one, one-1, one+1, ^one, ^(one - 1))
	}
	for _, kind := range kinds() {
		all = append(all, kind.a)
	}
	return all
}

// P5.1: Text

func TestText(t *testing.T) {
	for _, c := range []struct {
		a    api.Addr
		want string
	}{
		{0, "0.0.0.0"},
		{0xffffffff, "255.255.255.255"},
		{167772161, "10.0.0.1"},
		{0x01020304, "1.2.3.4"},
		{of(0, 9, 10, 99), "0.9.10.99"},
		{of(100, 255, 0, 9), "100.255.0.9"},
		{of(99, 100, 101, 199), "99.100.101.199"},
		{of(200, 249, 250, 254), "200.249.250.254"},
		{1, "0.0.0.1"},
		{1 << 24, "1.0.0.0"},
		{1 << 31, "128.0.0.0"},
	} {
		if got := addr.Text(c.a); got != c.want {
			t.Errorf("Text(%d) = %q, not %q", uint32(c.a), got, c.want)
		}
	}
}

func TestTextOfEachByteAtEachPlace(t *testing.T) {
	for n := range 256 {
		for place := range 4 {
			bytes := [4]int{1, 20, 0, 255}
			bytes[place] = n
			want := fmt.Sprintf("%d.%d.%d.%d", bytes[0], bytes[1], bytes[2], bytes[3])
			a := of(bytes[0], bytes[1], bytes[2], bytes[3])
			if got := addr.Text(a); got != want {
				t.Errorf("Text(%d) = %q, not %q", uint32(a), got, want)
			}
			if b, e, at := addr.Parse(want); b != a || e != api.OK || at != len(want) {
				t.Errorf("Parse(%q) = %d, %d, %d", want, uint32(b), e, at)
			}
		}
	}
}

// P5.1: Parse

func TestParse(t *testing.T) {
	for _, c := range []struct {
		s    string
		want api.Addr
	}{
		{"0.0.0.0", 0},
		{"255.255.255.255", 0xffffffff},
		{"10.0.0.1", 167772161},
		{"1.2.3.4", 0x01020304},
		{"0.9.10.99", of(0, 9, 10, 99)},
		{"100.255.0.9", of(100, 255, 0, 9)},
		{"200.249.250.254", of(200, 249, 250, 254)},
		{"127.0.0.1", of(127, 0, 0, 1)},
		{"128.0.0.0", 1 << 31},
	} {
		if a, e, at := addr.Parse(c.s); a != c.want || e != api.OK || at != len(c.s) {
			t.Errorf("Parse(%q) = %d, %d, %d, not %d, 0, %d", c.s, uint32(a), e, at, uint32(c.want), len(c.s))
		}
	}
}

// noAddrs are texts that are no Text of an address, and the index of the first byte of each that is not permitted.
func noAddrs() map[string]int {
	return map[string]int{
		// too short
		"": 0, "1": 1, "12": 2, "123": 3, "0": 1, "1.": 2, "1.2": 3, "1.2.": 4, "1.2.3": 5, "1.2.3.": 6,
		"255": 3, "255.": 4, "255.255.255": 11, "255.255.255.": 12, "0.0.0": 5, "10.0.0.": 7,
		// leading zeros
		"00": 1, "01": 1, "00.0.0.0": 1, "01.2.3.4": 1, "1.02.3.4": 3, "1.2.03.4": 5, "1.2.3.04": 7, "1.2.3.00": 7,
		"000.0.0.0": 1, "0x1.2.3.4": 1, "1.2.3.010": 7,
		// greater than 255
		"256": 2, "256.0.0.0": 2, "0.256.0.0": 4, "0.0.256.0": 6, "0.0.0.256": 8, "10.0.0.256": 9, "260.0.0.0": 2,
		"299.0.0.0": 2, "300.0.0.0": 2, "999.0.0.0": 2, "26.0.0.256": 9, "1.2.3.999": 8, "99999999999999999999": 2,
		// too many digits
		"1000": 3, "1000.0.0.0": 3, "2550.0.0.0": 3, "1.2.3.1000": 9, "1.2.3.2550": 9, "1.2.3.0000": 7, "1.1111.1.1": 5,
		// dots
		".": 0, "..": 0, ".1.2.3.4": 0, "1..2.3.4": 2, "1.2..3.4": 4, "1.2.3..4": 6, "1.2.3.4.": 7, "1.2.3.4.5": 7,
		"1.2.3.4..": 7, "1,2.3.4": 1, "1.2.3,4": 5, "1234": 3, "1.2.34567": 6, "12.3.4": 6, "...": 0, "1...": 2,
		// behind the last number
		"1.2.3.4 ": 7, "1.2.3.4x": 7, "1.2.3.4/8": 7, "1.2.3.4\n": 7, "1.2.3.4\x00": 7, "1.2.3.4/": 7, "255.255.255.2551": 15,
		"0.0.0.0\xff": 7, "1.2.3.4:80": 7, "0.0.0.00": 7, "0.0.0.01": 7, "255.255.255.255.": 15, "255.255.255.255 ": 15,
		// signs, blanks, letters
		"+1.2.3.4": 0, "-1.2.3.4": 0, "1.-2.3.4": 2, "1.+2.3.4": 2, "1.2.3.-4": 6, "-0.0.0.0": 0, "1-.2.3.4": 1, "1.2.3.+": 6,
		" 1.2.3.4": 0, "1 .2.3.4": 1, "1. 2.3.4": 2, "1.2.3. 4": 6, "\t1.2.3.4": 0, "1\n.2.3.4": 1, " ": 0,
		"a.b.c.d": 0, "1.a.3.4": 2, "1a.2.3.4": 1, "1.2.3.f": 6, "1.2.3.1f": 7, "x": 0, "1e2.0.0.0": 1, "1_0.0.0.0": 1, "localhost": 0,
		// beside the digits and the dot in their tables
		"/.2.3.4": 0, ":.2.3.4": 0, "1/2.3.4": 1, "1:2.3.4": 1, "1-2.3.4": 1, "\x00": 0, "\xff": 0, "\x80.2.3.4": 0, "1\xae2.3.4": 1,
		"\xb1.2.3.4": 0, "1.2.3.\xb4": 6, "１.2.3.4": 0, "١.2.3.4": 0, "1．2.3.4": 1, "1.2.3.４": 6, "1.2.3.4４": 7,
	}
}

func TestParseTellsTheFirstByteThatIsNotPermitted(t *testing.T) {
	for s, want := range noAddrs() {
		if a, e, at := addr.Parse(s); a != 0 || e != api.ErrForm || at != want {
			t.Errorf("Parse(%q) = %d, %d, %d, not 0, 3, %d", s, uint32(a), e, at, want)
		}
	}
}

func TestParseOfEachBeginningOfAText(t *testing.T) {
	const text = "255.100.20.3"
	for n := range len(text) {
		if a, e, at := addr.Parse(text[:n]); a != 0 || e != api.ErrForm || at != n {
			t.Errorf("Parse(%q) = %d, %d, %d, not 0, 3, %d", text[:n], uint32(a), e, at, n)
		}
	}
}

func TestParseOfLongTexts(t *testing.T) {
	for s, want := range map[string]int{
		strings.Repeat("1", 1<<20):              3,
		strings.Repeat("0", 1<<20):              1,
		strings.Repeat(".", 1<<20):              0,
		strings.Repeat("1.", 1<<20):             7,
		"1.2.3.4" + strings.Repeat("\n", 1<<20): 7,
	} {
		if a, e, at := addr.Parse(s); a != 0 || e != api.ErrForm || at != want {
			t.Errorf("Parse(%q...) = %d, %d, %d, not 0, 3, %d", s[:9], uint32(a), e, at, want)
		}
		if net, bits, e, at := addr.ParseNet(s); net != 0 || bits != 0 || e != api.ErrForm || at != want {
			t.Errorf("ParseNet(%q...) = %d, %d, %d, %d, not 0, 0, 3, %d", s[:9], uint32(net), bits, e, at, want)
		}
	}
}

// P5.3

// kinds are addresses at both ends of each range and beside them, and the kind of each.
func kinds() []struct {
	a    api.Addr
	want int
} {
	return []struct {
		a    api.Addr
		want int
	}{
		{0, 0},
		{1, 4},
		{of(0, 255, 255, 255), 4},
		{of(10, 0, 0, 1), 4},
		{of(63, 0, 0, 1), 4},
		{of(126, 255, 255, 255), 4},
		{of(127, 0, 0, 0), 1},
		{of(127, 0, 0, 1), 1},
		{of(127, 128, 3, 4), 1},
		{of(127, 255, 255, 255), 1},
		{of(128, 0, 0, 0), 4},
		{of(192, 168, 0, 1), 4},
		{of(223, 255, 255, 255), 4},
		{of(224, 0, 0, 0), 2},
		{of(231, 2, 3, 4), 2},
		{of(232, 0, 0, 0), 2},
		{of(239, 255, 255, 255), 2},
		{of(240, 0, 0, 0), 4},
		{of(247, 0, 0, 1), 4},
		{of(255, 0, 0, 0), 4},
		{of(255, 255, 255, 0), 4},
		{of(255, 255, 255, 254), 4},
		{of(255, 255, 255, 255), 3},
	}
}

func TestKind(t *testing.T) {
	for _, c := range kinds() {
		if got := addr.Kind(c.a); got != c.want {
			t.Errorf("Kind(%s) = %d, not %d", addr.Text(c.a), got, c.want)
		}
	}
}

func TestKindOfEachFirstByte(t *testing.T) {
	for first := range 256 {
		want := 4
		switch {
		case first == 127:
			want = 1
		case first >= 224 && first <= 239:
			want = 2
		}
		for _, rest := range []int{1, 0x5a5a5a, 0xfffffe} {
			if a := of(first, 0, 0, rest); addr.Kind(a) != want {
				t.Errorf("Kind(%s) = %d, not %d", addr.Text(a), addr.Kind(a), want)
			}
		}
	}
}

// The chapter's examples.

func TestExamples(t *testing.T) {
	if got := addr.Text(167772161); got != "10.0.0.1" {
		t.Errorf("Text(167772161) = %q", got)
	}
	if a, e, at := addr.Parse("10.0.0.256"); a != 0 || e != api.ErrForm || at != 9 {
		t.Errorf("Parse(10.0.0.256) = %d, %d, %d", uint32(a), e, at)
	}
	if net, bits, e, at := addr.ParseNet("10.1.0.0/16"); net != of(10, 1, 0, 0) || bits != 16 || e != api.OK || at != 11 {
		t.Errorf("ParseNet(10.1.0.0/16) = %d, %d, %d, %d", uint32(net), bits, e, at)
	}
	if got := addr.Kind(of(127, 0, 0, 1)); got != 1 {
		t.Errorf("Kind(127.0.0.1) = %d", got)
	}
}
