package frag_test

import (
	"bytes"
	"math"
	"testing"

	"towrope/api"
)

// shape is what tells fragments of one packet from one another.
type shape struct {
	off  int
	more bool
	opts int
	data int
}

// shaped fails unless the fragments have these shapes, and all else of p.
func shaped(t *testing.T, what string, p api.IP, mtu int, want []shape) {
	t.Helper()
	later, _ := carried(p.Opts)
	var l []api.IP
	at := 0
	for i, s := range want {
		q := p
		if i > 0 {
			q.Opts = later
		}
		if len(q.Opts) != s.opts {
			t.Fatalf("%s: the test itself wants %d bytes of options", what, s.opts)
		}
		q.Off, q.More, q.Data = s.off, s.more, p.Data[at:at+s.data]
		at += s.data
		l = append(l, q)
	}
	if at != len(p.Data) {
		t.Fatalf("%s: the test itself wants %d bytes of data", what, at)
	}
	pieces(t, what, p, mtu, l)
}

// whole fails unless p is the only fragment.
func whole(t *testing.T, what string, p api.IP, mtu int) {
	t.Helper()
	pieces(t, what, p, mtu, []api.IP{p})
}

// P11.2

func TestSplitOfOneThatFits(t *testing.T) {
	for what, p := range map[string]api.IP{
		"plain":                plain(),
		"zeros":                {},
		"no data":              with(func(p *api.IP) { p.Data = nil }),
		"no options":           with(func(p *api.IP) { p.Opts = nil }),
		"one byte":             {Data: []byte{5}},
		"Whole":                with(func(p *api.IP) { p.Whole = true }),
		"More":                 with(func(p *api.IP) { p.More = true }),
		"a middle fragment":    with(func(p *api.IP) { p.More, p.Off = true, 77 }),
		"the last fragment":    with(func(p *api.IP) { p.Off = 77 }),
		"the greatest Off":     with(func(p *api.IP) { p.Off = api.MaxOff }),
		"all":                  with(func(p *api.IP) { p.Whole, p.More, p.Off = true, true, api.MaxOff }),
		"options of no form":   with(func(p *api.IP) { p.Opts = []byte{130, 1, 2, 3} }),
		"options with no size": with(func(p *api.IP) { p.Opts = []byte{1, 1, 1, 130} }),
		"40 bytes of them":     with(func(p *api.IP) { p.Opts = repeat([]byte{130}, 40) }),
		"none is carried":      with(func(p *api.IP) { p.Opts = repeat(option(7, 4), 10) }),
		"the greatest fields":  {Tos: 255, Ident: 65535, TTL: 255, Proto: 255, Src: math.MaxUint32, Dst: math.MaxUint32, Data: noise(99, 1)},
	} {
		n := 20 + len(p.Opts) + len(p.Data)
		for _, mtu := range []int{n, n + 1, n + 7, n + 8, 1500, api.MaxPacket} {
			whole(t, what, p, max(mtu, api.MinMtu))
		}
	}
}

// A packet of just mtu bytes, and one of a byte more.
func TestSplitAtTheMtu(t *testing.T) {
	for _, mtu := range []int{68, 69, 75, 76, 77, 576, 1500, 65534} {
		for _, opts := range [][]byte{nil, option(130, 4), option(7, 4), option(255, 40), option(2, 40)} {
			n := mtu - 20 - len(opts)
			later, _ := carried(opts)
			whole(t, "just mtu bytes", sized(opts, n), mtu)
			whole(t, "a byte less", sized(opts, n-1), mtu)
			begin := n / 8 * 8
			shaped(t, "a byte more", sized(opts, n+1), mtu, []shape{{0, true, len(opts), begin}, {begin / 8, false, len(later), n + 1 - begin}})
		}
	}
	whole(t, "the longest packet", sized(nil, 65515), 65535)
	whole(t, "the longest packet with options", sized(option(130, 40), 65475), 65535)
	shaped(t, "the longest packet", sized(nil, 65515), 65534, []shape{{0, true, 0, 65512}, {8189, false, 0, 3}})
}

// Just as much as the first fragment has, and more.
func TestSplitBehindTheFirst(t *testing.T) {
	// With mtu 68 and 4 bytes of options 44 bytes fit, 40 of them in blocks; without options 48 and 48.
	keep, lose := option(130, 4), option(7, 4)
	for more := range 5 {
		whole(t, "up to what fits", sized(keep, 40+more), 68)
		whole(t, "up to what fits", sized(lose, 40+more), 68)
	}
	for more := 5; more <= 44; more++ {
		shaped(t, "a second one", sized(keep, 40+more), 68, []shape{{0, true, 4, 40}, {5, false, 4, more}})
	}
	for more := 5; more <= 48; more++ {
		shaped(t, "a second one", sized(lose, 40+more), 68, []shape{{0, true, 4, 40}, {5, false, 0, more}})
	}
	shaped(t, "a third one", sized(keep, 40+45), 68, []shape{{0, true, 4, 40}, {5, true, 4, 40}, {10, false, 4, 5}})
	shaped(t, "a third one", sized(lose, 40+49), 68, []shape{{0, true, 4, 40}, {5, true, 0, 48}, {11, false, 0, 1}})
	// Without options: a byte, 7, and 8 more than fit.
	whole(t, "48", sized(nil, 48), 68)
	shaped(t, "a byte more", sized(nil, 49), 68, []shape{{0, true, 0, 48}, {6, false, 0, 1}})
	shaped(t, "7 bytes more", sized(nil, 55), 68, []shape{{0, true, 0, 48}, {6, false, 0, 7}})
	shaped(t, "8 bytes more", sized(nil, 56), 68, []shape{{0, true, 0, 48}, {6, false, 0, 8}})
	shaped(t, "9 bytes more", sized(nil, 57), 68, []shape{{0, true, 0, 48}, {6, false, 0, 9}})
	shaped(t, "twice as much", sized(nil, 96), 68, []shape{{0, true, 0, 48}, {6, false, 0, 48}})
	shaped(t, "twice as much and a byte", sized(nil, 97), 68, []shape{{0, true, 0, 48}, {6, true, 0, 48}, {12, false, 0, 1}})
	// What is no block is left out of all but the last.
	shaped(t, "with 7 bytes of room beside the blocks", sized(nil, 103), 75, []shape{{0, true, 0, 48}, {6, false, 0, 55}})
	shaped(t, "with 7 bytes of room beside the blocks", sized(nil, 104), 75, []shape{{0, true, 0, 48}, {6, true, 0, 48}, {12, false, 0, 8}})
	shaped(t, "with a block more", sized(nil, 104), 76, []shape{{0, true, 0, 56}, {7, false, 0, 48}})
}

// With the longest options the least mtu has room for a block.
func TestSplitOfTheMostOptions(t *testing.T) {
	all, none := repeat(option(130, 4), 10), repeat(option(7, 4), 10)
	some := join(option(7, 10), option(136, 5), []byte{1}, option(20, 10), option(200, 8), []byte{0}, option(130, 5))
	shaped(t, "all carried", sized(all, 20), 68, []shape{{0, true, 40, 8}, {1, true, 40, 8}, {2, false, 40, 4}})
	shaped(t, "all carried, as one", sized(option(199, 40), 17), 68, []shape{{0, true, 40, 8}, {1, true, 40, 8}, {2, false, 40, 1}})
	shaped(t, "none carried", sized(none, 60), 68, []shape{{0, true, 40, 8}, {1, true, 0, 48}, {7, false, 0, 4}})
	shaped(t, "some carried", sized(some, 70), 68, []shape{{0, true, 40, 8}, {1, true, 16, 32}, {5, false, 16, 30}})
	whole(t, "all carried, 8 bytes", sized(all, 8), 68)
	shaped(t, "all carried, 9 bytes", sized(all, 9), 68, []shape{{0, true, 40, 8}, {1, false, 40, 1}})
	shaped(t, "none carried, 56 bytes", sized(none, 56), 68, []shape{{0, true, 40, 8}, {1, false, 0, 48}})
	shaped(t, "one carried that is filled up", sized(join(option(130, 39), []byte{1}), 31), 75, []shape{{0, true, 40, 8}, {1, true, 40, 8}, {2, false, 40, 15}})
}

// No data make no fragment beside the first one, even with the most options.
func TestSplitOfNoData(t *testing.T) {
	for _, opts := range [][]byte{nil, {}, option(130, 4), option(7, 4), option(130, 40), option(7, 40), repeat([]byte{130}, 40)} {
		for _, data := range [][]byte{nil, {}} {
			p := with(func(p *api.IP) { p.Opts, p.Data = opts, data })
			whole(t, "no data", p, 68)
			p.Whole, p.More, p.Off = true, true, api.MaxOff
			whole(t, "no data", p, 68)
		}
	}
}

// A fragment that is divided again: its Off is added to, and only the last one has its More.
func TestSplitOfAFragment(t *testing.T) {
	for _, off := range []int{0, 1, 6, 1000, 8179} {
		for _, more := range []bool{false, true} {
			p := sized(nil, 100)
			p.Off, p.More = off, more
			shaped(t, "a fragment", p, 68, []shape{{off, true, 0, 48}, {off + 6, true, 0, 48}, {off + 12, more, 0, 4}})
			p = sized(option(7, 4), 88)
			p.Off, p.More = off, more
			shaped(t, "a fragment with options", p, 68, []shape{{off, true, 4, 40}, {off + 5, more, 0, 48}})
		}
	}
}

func TestSplitOfTheGreatestOff(t *testing.T) {
	p := sized(nil, 100)
	for _, more := range []bool{false, true} {
		p.More = more
		p.Off = 8179
		shaped(t, "just MaxOff", p, 68, []shape{{8179, true, 0, 48}, {8185, true, 0, 48}, {8191, more, 0, 4}})
		p.Off = 8180
		refused(t, "the last one beyond", p, 68, api.ErrRange)
		p.Off = 8185
		refused(t, "the last one beyond, the second one just MaxOff", p, 68, api.ErrRange)
		p.Off = 8186
		refused(t, "the second one beyond", p, 68, api.ErrRange)
		p.Off = 8191
		refused(t, "all but the first one beyond", p, 68, api.ErrRange)
		whole(t, "it fits", p, 120)
	}
	// The longest packet, in many fragments and in two.
	p = sized(nil, 65515)
	p.Off = 7
	if l := split(t, "the longest packet", p, 68); len(l) != 1365 || l[1364].Off != 8191 {
		t.Errorf("the longest packet: %d fragments, the last one with Off %d", len(l), l[len(l)-1].Off)
	}
	p.Off = 8
	refused(t, "the longest packet", p, 68, api.ErrRange)
	p.Off = 2
	shaped(t, "the longest packet", p, 65534, []shape{{2, true, 0, 65512}, {8191, false, 0, 3}})
	p.Off = 3
	refused(t, "the longest packet", p, 65534, api.ErrRange)
	p.Off = 8191
	refused(t, "the longest packet", p, 65534, api.ErrRange)
	whole(t, "the longest packet", p, 65535)
}

// Each byte of the longest packets, in the most fragments that there can be.
func TestSplitInTheMost(t *testing.T) {
	opts := option(130, 40)
	p := sized(opts, 65475)
	var want []shape
	for i := range 8184 {
		want = append(want, shape{i, true, 40, 8})
	}
	shaped(t, "the most", p, 68, append(want, shape{8184, false, 40, 3}))
	p.Off = 7
	l := split(t, "the most, behind others", p, 68)
	if n := len(l); n != 8185 || l[n-1].Off != 8191 {
		t.Errorf("the most, behind others: %d fragments, Off %d", n, l[n-1].Off)
	}
	p.Off = 8
	refused(t, "the most, behind others", p, 68, api.ErrRange)
}

// All other fields are those of p, each alone at its greatest.
func TestSplitKeepsTheFields(t *testing.T) {
	for what, change := range map[string]func(p *api.IP){
		"plain":     func(p *api.IP) {},
		"Tos 0":     func(p *api.IP) { p.Tos = 0 },
		"Tos 255":   func(p *api.IP) { p.Tos = 255 },
		"Ident 0":   func(p *api.IP) { p.Ident = 0 },
		"Ident max": func(p *api.IP) { p.Ident = 65535 },
		"More":      func(p *api.IP) { p.More = true },
		"Off":       func(p *api.IP) { p.Off = 4095 },
		"TTL 0":     func(p *api.IP) { p.TTL = 0 },
		"TTL 255":   func(p *api.IP) { p.TTL = 255 },
		"Proto 0":   func(p *api.IP) { p.Proto = 0 },
		"Proto 255": func(p *api.IP) { p.Proto = 255 },
		"Src 0":     func(p *api.IP) { p.Src = 0 },
		"Src max":   func(p *api.IP) { p.Src = math.MaxUint32 },
		"Dst 0":     func(p *api.IP) { p.Dst = 0 },
		"Dst max":   func(p *api.IP) { p.Dst = math.MaxUint32 },
		"Opts none": func(p *api.IP) { p.Opts = nil },
		"Opts 40":   func(p *api.IP) { p.Opts = option(131, 40) },
		"Data 0":    func(p *api.IP) { p.Data = make([]byte, 300) },
		"Data 255":  func(p *api.IP) { p.Data = bytes.Repeat([]byte{255}, 301) },
	} {
		p := with(change)
		for _, mtu := range []int{68, 100, 255} {
			l := split(t, what, p, mtu)
			if len(l) < 2 {
				t.Fatalf("%s: mtu %d: %d fragments", what, mtu, len(l))
			}
			for i, q := range l {
				if q.Tos != p.Tos || q.Ident != p.Ident || q.Whole || q.TTL != p.TTL || q.Proto != p.Proto || q.Src != p.Src || q.Dst != p.Dst {
					t.Errorf("%s: mtu %d: fragment %d: a field that is not that of the packet: %v", what, mtu, i, q)
				}
			}
			pieces(t, what, p, mtu, divided(p, mtu))
		}
	}
}

// All lengths of data with all of many mtus and options, against the other way of dividing.
func TestSplitOfAllLengths(t *testing.T) {
	for _, opts := range [][]byte{nil, option(130, 4), option(7, 4), option(130, 40), option(7, 40), join(option(7, 9), option(144, 11)), join(option(150, 3), []byte{0})} {
		for n := range 260 {
			p := sized(opts, n)
			p.Off, p.More = n*3, n%3 == 0
			for mtu := 68; mtu < 100; mtu++ {
				pieces(t, "one of all", p, mtu, divided(p, mtu))
			}
		}
	}
}

func TestSplitOfAllMtus(t *testing.T) {
	for _, p := range []api.IP{plain(), sized(option(7, 40), 1500), sized(option(130, 40), 1500), sized(nil, 3000)} {
		for mtu := 68; mtu < 3100; mtu++ {
			pieces(t, "one of all", p, mtu, divided(p, mtu))
		}
	}
}

func TestSplitOfLongOnes(t *testing.T) {
	for _, p := range []api.IP{sized(nil, 65515), sized(option(7, 40), 65475), sized(option(130, 40), 65475), sized(option(130, 8), 65487)} {
		for _, mtu := range []int{68, 69, 75, 76, 99, 576, 1500, 8191, 8192, 32767, 32768, 65527, 65528, 65534, 65535} {
			pieces(t, "a long one", p, mtu, divided(p, mtu))
		}
	}
}
