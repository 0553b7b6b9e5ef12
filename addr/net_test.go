package addr_test

import (
	"math"
	"strings"
	"testing"

	"towrope/addr"
	"towrope/api"
)

// noBits are numbers that are no number of bits.
func noBits() []int {
	return []int{-1, -2, -31, -32, -33, -64, 33, 34, 63, 64, 65, 255, 256, 288, 1 << 32, 1<<32 + 8, -1 << 32, math.MaxInt, math.MinInt, math.MaxInt32, math.MinInt32}
}

// low counts the lower bits of an address one by one, without a shift by a number.
func low(bits int) api.Addr {
	size := api.Addr(0)
	for range 32 - bits {
		size = size*2 + 1
	}
	return size
}

// P5.2: Net, Last, NetText

func TestNets(t *testing.T) {
	for _, c := range []struct {
		a         api.Addr
		bits      int
		net, last api.Addr
		text      string
	}{
		{of(10, 1, 2, 3), 0, 0, of(255, 255, 255, 255), "0.0.0.0/0"},
		{of(10, 1, 2, 3), 1, 0, of(127, 255, 255, 255), "0.0.0.0/1"},
		{of(200, 1, 2, 3), 1, of(128, 0, 0, 0), of(255, 255, 255, 255), "128.0.0.0/1"},
		{of(10, 1, 2, 3), 7, of(10, 0, 0, 0), of(11, 255, 255, 255), "10.0.0.0/7"},
		{of(10, 1, 2, 3), 8, of(10, 0, 0, 0), of(10, 255, 255, 255), "10.0.0.0/8"},
		{of(10, 1, 2, 3), 9, of(10, 0, 0, 0), of(10, 127, 255, 255), "10.0.0.0/9"},
		{of(10, 1, 2, 3), 16, of(10, 1, 0, 0), of(10, 1, 255, 255), "10.1.0.0/16"},
		{of(10, 1, 2, 3), 24, of(10, 1, 2, 0), of(10, 1, 2, 255), "10.1.2.0/24"},
		{of(10, 1, 2, 3), 30, of(10, 1, 2, 0), of(10, 1, 2, 3), "10.1.2.0/30"},
		{of(10, 1, 2, 3), 31, of(10, 1, 2, 2), of(10, 1, 2, 3), "10.1.2.2/31"},
		{of(10, 1, 2, 3), 32, of(10, 1, 2, 3), of(10, 1, 2, 3), "10.1.2.3/32"},
		{0, 0, 0, 0xffffffff, "0.0.0.0/0"},
		{0, 31, 0, 1, "0.0.0.0/31"},
		{0, 32, 0, 0, "0.0.0.0/32"},
		{0xffffffff, 0, 0, 0xffffffff, "0.0.0.0/0"},
		{0xffffffff, 1, 0x80000000, 0xffffffff, "128.0.0.0/1"},
		{0xffffffff, 31, 0xfffffffe, 0xffffffff, "255.255.255.254/31"},
		{0xffffffff, 32, 0xffffffff, 0xffffffff, "255.255.255.255/32"},
		{of(172, 31, 255, 254), 12, of(172, 16, 0, 0), of(172, 31, 255, 255), "172.16.0.0/12"},
	} {
		if net, e := addr.Net(c.a, c.bits); net != c.net || e != api.OK {
			t.Errorf("Net(%s, %d) = %s, %d, not %s", addr.Text(c.a), c.bits, addr.Text(net), e, addr.Text(c.net))
		}
		if last, e := addr.Last(c.a, c.bits); last != c.last || e != api.OK {
			t.Errorf("Last(%s, %d) = %s, %d, not %s", addr.Text(c.a), c.bits, addr.Text(last), e, addr.Text(c.last))
		}
		if text, e := addr.NetText(c.a, c.bits); text != c.text || e != api.OK {
			t.Errorf("NetText(%s, %d) = %q, %d, not %q", addr.Text(c.a), c.bits, text, e, c.text)
		}
	}
}

func TestNetsOfAllBits(t *testing.T) {
	for _, a := range edges() {
		for bits := range 33 {
			size := low(bits)
			net, e := addr.Net(a, bits)
			if e != api.OK || net&size != 0 || net|size != a|size {
				t.Errorf("Net(%d, %d) = %d, %d", uint32(a), bits, uint32(net), e)
			}
			if last, e := addr.Last(a, bits); last != net+size || e != api.OK {
				t.Errorf("Last(%d, %d) = %d, %d, not %d", uint32(a), bits, uint32(last), e, uint32(net+size))
			}
		}
	}
}

func TestNumbersOfBitsThatAreNone(t *testing.T) {
	for _, bits := range noBits() {
		for _, a := range []api.Addr{0, 1, of(10, 1, 2, 3), 0xffffffff} {
			if net, e := addr.Net(a, bits); net != 0 || e != api.ErrArg {
				t.Errorf("Net(%d, %d) = %d, %d", uint32(a), bits, uint32(net), e)
			}
			if last, e := addr.Last(a, bits); last != 0 || e != api.ErrArg {
				t.Errorf("Last(%d, %d) = %d, %d", uint32(a), bits, uint32(last), e)
			}
			if text, e := addr.NetText(a, bits); text != "" || e != api.ErrArg {
				t.Errorf("NetText(%d, %d) = %q, %d", uint32(a), bits, text, e)
			}
			if addr.In(a, a, bits) || addr.In(a, 0, bits) {
				t.Errorf("In(%d, ., %d) is true", uint32(a), bits)
			}
		}
	}
}

// P5.2: In

func TestIn(t *testing.T) {
	for _, c := range []struct {
		a, net api.Addr
		bits   int
		want   bool
	}{
		{of(10, 1, 2, 3), of(10, 1, 0, 0), 16, true},
		{of(10, 2, 2, 3), of(10, 1, 0, 0), 16, false},
		{of(10, 2, 2, 3), of(10, 1, 0, 0), 15, false},
		{of(10, 2, 2, 3), of(10, 1, 0, 0), 14, true},
		{of(10, 1, 0, 0), of(10, 1, 0, 0), 16, true},
		{of(10, 1, 255, 255), of(10, 1, 0, 0), 16, true},
		{of(10, 0, 255, 255), of(10, 1, 0, 0), 16, false},
		{of(10, 2, 0, 0), of(10, 1, 0, 0), 16, false},
		// A network whose lower bits are not 0 is the same network.
		{of(10, 1, 2, 3), of(10, 1, 200, 7), 16, true},
		{of(10, 1, 0, 0), of(10, 1, 255, 255), 16, true},
		{0, 0xffffffff, 0, true},
		{0xffffffff, 0, 0, true},
		{0, 0x7fffffff, 1, true},
		{0, 0x80000000, 1, false},
		{0xffffffff, 0x80000000, 1, true},
		{6, 7, 31, true},
		{7, 6, 31, true},
		{7, 8, 31, false},
		{7, 7, 32, true},
		{7, 6, 32, false},
		{0xffffffff, 0xffffffff, 32, true},
		{0xffffffff, 0xfffffffe, 32, false},
		{0, 0, 32, true},
	} {
		if got := addr.In(c.a, c.net, c.bits); got != c.want {
			t.Errorf("In(%s, %s, %d) = %t", addr.Text(c.a), addr.Text(c.net), c.bits, got)
		}
		if got := addr.In(c.net, c.a, c.bits); got != c.want {
			t.Errorf("In(%s, %s, %d) = %t", addr.Text(c.net), addr.Text(c.a), c.bits, got)
		}
	}
}

// P5.2: ParseNet

func TestParseNet(t *testing.T) {
	for _, c := range []struct {
		s    string
		net  api.Addr
		bits int
	}{
		{"0.0.0.0/0", 0, 0},
		{"0.0.0.0/1", 0, 1},
		{"128.0.0.0/1", 1 << 31, 1},
		{"0.0.0.0/9", 0, 9},
		{"10.0.0.0/8", of(10, 0, 0, 0), 8},
		{"10.128.0.0/10", of(10, 128, 0, 0), 10},
		{"10.1.0.0/16", of(10, 1, 0, 0), 16},
		{"10.1.0.0/19", of(10, 1, 0, 0), 19},
		{"10.1.0.0/20", of(10, 1, 0, 0), 20},
		{"10.1.0.0/29", of(10, 1, 0, 0), 29},
		{"10.1.0.0/30", of(10, 1, 0, 0), 30},
		{"10.1.2.2/31", of(10, 1, 2, 2), 31},
		{"10.1.2.3/32", of(10, 1, 2, 3), 32},
		{"255.255.255.254/31", 0xfffffffe, 31},
		{"255.255.255.255/32", 0xffffffff, 32},
		{"0.0.0.0/32", 0, 32},
	} {
		if net, bits, e, at := addr.ParseNet(c.s); net != c.net || bits != c.bits || e != api.OK || at != len(c.s) {
			t.Errorf("ParseNet(%q) = %d, %d, %d, %d", c.s, uint32(net), bits, e, at)
		}
	}
}

// noParseNet fails if s is taken as a network, or another index than want is told.
func noParseNet(t *testing.T, s string, want int) {
	t.Helper()
	if net, bits, e, at := addr.ParseNet(s); net != 0 || bits != 0 || e != api.ErrForm || at != want {
		t.Errorf("ParseNet(%q) = %d, %d, %d, %d, not 0, 0, 3, %d", s, uint32(net), bits, e, at, want)
	}
}

func TestParseNetTellsTheFirstByteThatIsNotPermitted(t *testing.T) {
	for s, want := range map[string]int{
		// without a slash, or without a number behind it
		"1.2.3.4": 7, "0.0.0.0": 7, "255.255.255.255": 15, "1.2.3.4/": 8, "0.0.0.0/": 8, "10.0.0.0/": 9, "255.255.255.255/": 16,
		"1.2.3.4 8": 7, "1.2.3.4.8": 7, "1.2.3.48": 8, "1.2.3.4-8": 7, "1.2.3.40": 8, "0.0.0.08": 7, "10.0.0.0\\8": 8,
		// a slash too early, or twice
		"/": 0, "/8": 0, "1/8": 1, "10/8": 2, "10./8": 3, "10.0/8": 4, "10.0.0/8": 6, "10.0.0./8": 7, "10.0.0.0//8": 9, "10.0.0.0/8/": 10, "10.0.0.0/8/8": 10,
		// leading zeros
		"0.0.0.0/00": 9, "0.0.0.0/01": 9, "0.0.0.0/08": 9, "10.0.0.0/08": 10, "0.0.0.0/000": 9, "0.0.0.0/032": 9,
		// more than 32, and too many digits
		"0.0.0.0/33": 9, "0.0.0.0/34": 9, "0.0.0.0/39": 9, "0.0.0.0/40": 9, "0.0.0.0/48": 9, "0.0.0.0/64": 9, "0.0.0.0/99": 9,
		"0.0.0.0/320": 10, "0.0.0.0/100": 10, "0.0.0.0/128": 10, "0.0.0.0/255": 10, "0.0.0.0/321": 10, "0.0.0.0/330": 9,
		"0.0.0.0/4294967296": 9, "0.0.0.0/18446744073709551616": 10, "1.2.3.4/33": 9, "1.2.3.4/320": 10,
		// behind the last number
		"0.0.0.0/0 ": 9, "0.0.0.0/8x": 9, "0.0.0.0/16.": 10, "0.0.0.0/32\n": 10, "0.0.0.0/1\x00": 9, "0.0.0.0/31\xff": 10, "0.0.0.0/3 ": 9,
		// signs, blanks, letters
		"0.0.0.0/-1": 8, "0.0.0.0/+1": 8, "0.0.0.0/ 1": 8, "0.0.0.0/x": 8, "0.0.0.0/0x8": 9, "0.0.0.0/-0": 8, "0.0.0.0/.": 8, " 0.0.0.0/8": 0,
		"0.0.0.0 /8": 7, "0.0.0.0/１": 8, "0.0.0.0/:": 8, "0.0.0.0/1e1": 9, "0.0.0.0／8": 7, "0.0.0.0/\xb1": 8,
		// lower bits that are not 0, but something else is wrong besides
		"1.2.3.4/8x": 9, "1.2.3.4/08": 9, "1.2.3.4/-8": 8, "1.2.3.4/8 ": 9, "255.255.255.255/0/": 17, "255.255.255.255/33": 17,
		"10.0.0.256/8": 9, "10.0.0.01/8": 8, "1.2.3./8": 6,
	} {
		noParseNet(t, s, want)
	}
}

func TestParseNetOfAddressesThatAreNone(t *testing.T) {
	for s, want := range noAddrs() {
		if !strings.HasPrefix(s, "1.2.3.4/") {
			noParseNet(t, s, want)
		}
		if want < len(s) && !strings.HasPrefix(s, "1.2.3.4/") {
			noParseNet(t, s+"/8", want)
		}
	}
	for _, s := range []string{"", "1", "1.", "1.2", "1.2.", "1.2.3", "1.2.3."} {
		noParseNet(t, s+"/8", len(s))
	}
}

func TestParseNetOfLowerBitsThatAreNot0(t *testing.T) {
	for _, s := range []string{
		"10.1.0.0/8", "10.1.0.0/15", "10.1.2.3/31", "255.255.255.255/0", "255.255.255.255/31", "0.0.0.1/0", "0.0.0.1/31",
		"1.2.3.4/8", "1.2.3.4/29", "128.0.0.0/0", "192.0.0.0/1", "10.1.2.3/24",
		// More digits could make networks of these; of their form they are whole.
		"10.1.2.3/3", "10.1.2.2/3", "64.0.0.0/1", "32.0.0.0/2",
	} {
		noParseNet(t, s, 0)
	}
	for _, a := range edges() {
		for bits := range 33 {
			s := addr.Text(a) + "/" + strings.TrimPrefix(addr.Text(api.Addr(bits)), "0.0.0.")
			if a&low(bits) != 0 {
				noParseNet(t, s, 0)
			} else if net, got, e, at := addr.ParseNet(s); net != a || got != bits || e != api.OK || at != len(s) {
				t.Errorf("ParseNet(%q) = %d, %d, %d, %d", s, uint32(net), got, e, at)
			}
		}
	}
}

func TestParseNetOfEachBeginningOfAText(t *testing.T) {
	const text = "255.100.20.0/24"
	for n := range len(text) - 1 {
		noParseNet(t, text[:n], n)
	}
	// This one is whole, with another number of bits.
	noParseNet(t, "255.100.20.0/2", 0)
}
