package addr_test

import (
	"math/rand/v2"
	"net/netip"
	"regexp"
	"strconv"
	"strings"
	"testing"

	"towrope/addr"
	"towrope/api"
)

// The texts of the promises as patterns: what one may begin with, and what is whole.
const (
	one  = `(?:25[0-5]|2[0-4][0-9]|1[0-9][0-9]|[1-9][0-9]|[0-9])`
	bits = `(?:3[0-2]|[12][0-9]|[0-9])`
)

var (
	beginning    = regexp.MustCompile(`\A(?:` + one + `\.){0,3}` + one + `?\z`)
	whole        = regexp.MustCompile(`\A(?:` + one + `\.){3}` + one + `\z`)
	netBeginning = regexp.MustCompile(`\A(?:(?:` + one + `\.){0,3}` + one + `?|(?:` + one + `\.){3}` + one + `/` + bits + `?)\z`)
	netWhole     = regexp.MustCompile(`\A(?:` + one + `\.){3}` + one + `/` + bits + `\z`)
)

// fault returns the length of the longest beginning of s that may begin a text.
func fault(may *regexp.Regexp, s string) int {
	for n := range len(s) {
		if !may.MatchString(s[:n+1]) {
			return n
		}
	}
	return len(s)
}

// value reads a text that is whole.
func value(s string) api.Addr {
	n := 0
	for part := range strings.SplitSeq(s, ".") {
		number, _ := strconv.Atoi(part)
		n = n*256 + number
	}
	return api.Addr(n)
}

// wantParse and wantParseNet are what the promises ask for, worked out by the patterns.
func wantParse(s string) (api.Addr, api.Errno, int) {
	if !whole.MatchString(s) {
		return 0, api.ErrForm, fault(beginning, s)
	}
	return value(s), api.OK, len(s)
}

func wantParseNet(s string) (api.Addr, int, api.Errno, int) {
	if !netWhole.MatchString(s) {
		return 0, 0, api.ErrForm, fault(netBeginning, s)
	}
	text, number, _ := strings.Cut(s, "/")
	a := value(text)
	n, _ := strconv.Atoi(number)
	if a&low(n) != 0 {
		return 0, 0, api.ErrForm, 0
	}
	return a, n, api.OK, len(s)
}

// same fails if s is read otherwise than the promises ask.
func same(t *testing.T, s string) {
	t.Helper()
	a, e, at := addr.Parse(s)
	if wantA, wantE, wantAt := wantParse(s); a != wantA || e != wantE || at != wantAt {
		t.Errorf("Parse(%q) = %d, %d, %d, not %d, %d, %d", s, uint32(a), e, at, uint32(wantA), wantE, wantAt)
	}
	if e == api.OK && addr.Text(a) != s {
		t.Errorf("Parse(%q) = %d, whose Text is %q", s, uint32(a), addr.Text(a))
	}
	net, n, e, at := addr.ParseNet(s)
	if wantNet, wantN, wantE, wantAt := wantParseNet(s); net != wantNet || n != wantN || e != wantE || at != wantAt {
		t.Errorf("ParseNet(%q) = %d, %d, %d, %d, not %d, %d, %d, %d", s, uint32(net), n, e, at, uint32(wantNet), wantN, wantE, wantAt)
	}
}

func TestAllShortTexts(t *testing.T) {
	const alphabet = "012569./x"
	var try func(s string, more int)
	try = func(s string, more int) {
		same(t, s)
		if more > 0 && !t.Failed() {
			for i := range len(alphabet) {
				try(s+alphabet[i:i+1], more-1)
			}
		}
	}
	try("", 4)
	for _, begin := range []string{"0.0.", "25.1.2", "1.2.3.", "0.0.0.0", "0.0.0.0/", "255.255.255.255/", "2.5.6.128/"} {
		try(begin, 3)
	}
}

func TestTextsWithOneByteChanged(t *testing.T) {
	for _, s := range []string{"10.20.30.40", "255.255.255.255", "0.0.0.0", "0.0.0.0/0", "10.1.0.0/16", "255.255.255.255/32", "192.168.1.0/24"} {
		for i := range len(s) + 1 {
			for c := range 256 {
				same(t, s[:i]+string([]byte{byte(c)})+s[i:])
				if i < len(s) {
					same(t, s[:i]+string([]byte{byte(c)})+s[i+1:])
				}
			}
			if i < len(s) {
				same(t, s[:i]+s[i+1:])
				same(t, s[:i]+s[i:i+1]+s[i:])
			}
		}
	}
}

func TestAllNumbersAtEachPlace(t *testing.T) {
	for n := range 1200 {
		number := strconv.Itoa(n)
		for _, s := range []string{number, "0" + number, number + "0"} {
			same(t, s+".2.3.4")
			same(t, "1."+s+".3.4")
			same(t, "1.2."+s+".4")
			same(t, "1.2.3."+s)
			same(t, s+".0.0.0/8")
			same(t, "0.0.0.0/"+s)
			same(t, "1.2.3.4/"+s)
		}
	}
}

func TestAnyTexts(t *testing.T) {
	random := rand.New(rand.NewPCG(5, 1))
	const likely = "0123456789012....//3 "
	for range 100000 {
		b := make([]byte, random.IntN(20))
		for i := range b {
			b[i] = likely[random.IntN(len(likely))]
		}
		same(t, string(b))
	}
}

// P5.4: addresses and networks survive formatting and parsing.

// some are the edges and n other addresses.
func some(n int) []api.Addr {
	random := rand.New(rand.NewPCG(5, 2))
	all := edges()
	for range n {
		all = append(all, api.Addr(random.Uint32()))
	}
	return all
}

func TestAddressesSurvive(t *testing.T) {
	for _, a := range some(20000) {
		s := addr.Text(a)
		if b, e, at := addr.Parse(s); b != a || e != api.OK || at != len(s) {
			t.Errorf("Parse(%q) = %d, %d, %d, not %d, 0, %d", s, uint32(b), e, at, uint32(a), len(s))
		}
		want := netip.AddrFrom4([4]byte{byte(a >> 24), byte(a >> 16), byte(a >> 8), byte(a)}).String()
		if s != want {
			t.Errorf("Text(%d) = %q, not %q", uint32(a), s, want)
		}
	}
}

func TestNetworksSurvive(t *testing.T) {
	for _, a := range some(1000) {
		for n := range 33 {
			net, _ := addr.Net(a, n)
			s, e := addr.NetText(a, n)
			if e != api.OK || s != addr.Text(net)+"/"+strconv.Itoa(n) {
				t.Errorf("NetText(%d, %d) = %q, %d", uint32(a), n, s, e)
			}
			if same, _ := addr.NetText(net, n); same != s {
				t.Errorf("NetText(%d, %d) = %q, but of the network %q", uint32(a), n, s, same)
			}
			if b, bits, e, at := addr.ParseNet(s); b != net || bits != n || e != api.OK || at != len(s) {
				t.Errorf("ParseNet(%q) = %d, %d, %d, %d, not %d, %d, 0, %d", s, uint32(b), bits, e, at, uint32(net), n, len(s))
			}
		}
	}
}

// P5.4: the addresses that are In a network are exactly those from Net to Last.

func TestInIsFromNetToLast(t *testing.T) {
	for _, a := range some(100) {
		for n := range 33 {
			net, _ := addr.Net(a, n)
			last, _ := addr.Last(a, n)
			near := append(edges(), net-2, net-1, net, net+1, last-1, last, last+1, last+2, net+(last-net)/2, a)
			for _, b := range near {
				if want := b >= net && b <= last; addr.In(b, a, n) != want || addr.In(b, net, n) != want || addr.In(b, last, n) != want {
					t.Errorf("In(%s, %s, %d) is not %t", addr.Text(b), addr.Text(a), n, want)
				}
			}
		}
	}
}
