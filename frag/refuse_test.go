package frag_test

import (
	"math"
	"strings"
	"testing"

	"towrope/api"
	"towrope/ip"
)

// P11.2: the errors

// Those of ip.Check, of a packet that would fit and of one that would not.
func TestSplitOfWhatIsNoPacket(t *testing.T) {
	for what, c := range map[string]struct {
		change func(p *api.IP)
		e      api.Errno
	}{
		"Off -1":              {func(p *api.IP) { p.Off = -1 }, api.ErrArg},
		"Off 8192":            {func(p *api.IP) { p.Off = 8192 }, api.ErrArg},
		"the least Off":       {func(p *api.IP) { p.Off = math.MinInt }, api.ErrArg},
		"the greatest Off":    {func(p *api.IP) { p.Off = math.MaxInt }, api.ErrArg},
		"1 byte of options":   {func(p *api.IP) { p.Opts = []byte{1} }, api.ErrArg},
		"2 bytes of options":  {func(p *api.IP) { p.Opts = option(130, 2) }, api.ErrArg},
		"39 bytes of options": {func(p *api.IP) { p.Opts = option(130, 39) }, api.ErrArg},
		"41 bytes of options": {func(p *api.IP) { p.Opts = option(130, 41) }, api.ErrArg},
		"44 bytes of options": {func(p *api.IP) { p.Opts = repeat(option(130, 4), 11) }, api.ErrArg},
		"65536 bytes":         {func(p *api.IP) { p.Opts, p.Data = nil, make([]byte, 65516) }, api.ErrLong},
		"65536 with options":  {func(p *api.IP) { p.Opts, p.Data = option(130, 40), make([]byte, 65476) }, api.ErrLong},
		"131072 bytes":        {func(p *api.IP) { p.Data = make([]byte, 131052) }, api.ErrLong},
		"Off -1 and too long": {func(p *api.IP) { p.Off, p.Data = -1, make([]byte, 65536) }, api.ErrArg},
		"41 and too long":     {func(p *api.IP) { p.Opts, p.Data = option(7, 41), make([]byte, 65536) }, api.ErrArg},
	} {
		for _, n := range []int{0, 1, 500} {
			p := sized(option(130, 8), n)
			c.change(&p)
			if e := ip.Check(p); e != c.e {
				t.Fatalf("%s: ip.Check: error %d", what, int(e))
			}
			for _, mtu := range []int{68, 1500, 65535} {
				refused(t, what, p, mtu, c.e)
			}
		}
	}
}

func TestSplitWithEachMtu(t *testing.T) {
	fits, divides := sized(nil, 40), sized(nil, 100)
	for _, mtu := range []int{67, 66, 60, 28, 20, 19, 8, 1, 0, -1, -68, -65535, math.MinInt, 65536, 65537, 1 << 17, 1 << 32, math.MaxInt} {
		refused(t, "an mtu that may not be", fits, mtu, api.ErrArg)
		refused(t, "an mtu that may not be", divides, mtu, api.ErrArg)
		refused(t, "an mtu that may not be", api.IP{}, mtu, api.ErrArg)
	}
	for mtu := -100; mtu < 68; mtu++ {
		refused(t, "a small mtu", divides, mtu, api.ErrArg)
	}
	whole(t, "the least mtu", fits, 68)
	shaped(t, "the least mtu", divides, 68, []shape{{0, true, 0, 48}, {6, true, 0, 48}, {12, false, 0, 4}})
	whole(t, "the greatest mtu", divides, 65535)
	whole(t, "the greatest mtu", sized(nil, 65515), 65535)
}

func TestSplitOfWhole(t *testing.T) {
	for _, opts := range [][]byte{nil, option(130, 4), option(7, 40), {130, 1, 2, 3}} {
		p := sized(opts, 300)
		p.Whole = true
		n := 320 + len(opts)
		whole(t, "one that fits", p, n)
		whole(t, "one that fits", p, n+1)
		whole(t, "one that fits", p, 65535)
		refused(t, "one that does not fit", p, n-1, api.ErrWhole)
		refused(t, "one that does not fit", p, 68, api.ErrWhole)
		p.More, p.Off = true, 5
		whole(t, "a fragment that fits", p, n)
		refused(t, "a fragment that does not fit", p, n-1, api.ErrWhole)
	}
}

func TestSplitOfOptionsOfNoForm(t *testing.T) {
	for _, opts := range [][]byte{
		{130, 0, 0, 0}, {130, 1, 0, 0}, {130, 5, 0, 0}, {130, 255, 0, 0}, {1, 1, 1, 130},
		{7, 0, 0, 0}, {7, 1, 0, 0}, {7, 5, 0, 0}, {7, 255, 0, 0}, {1, 1, 1, 7},
		{130, 3, 9, 7}, {7, 3, 9, 130}, join(option(130, 4), []byte{5, 5, 5, 5}),
		repeat([]byte{130}, 40), join(repeat(option(130, 3), 13), []byte{130}),
	} {
		n := 320 + len(opts)
		p := sized(opts, 300)
		whole(t, "one that fits", p, n)
		whole(t, "one that fits", p, 65535)
		refused(t, "one that does not fit", p, n-1, api.ErrForm)
		refused(t, "one that does not fit", p, 68, api.ErrForm)
		// Not read at all behind a byte 0.
		p = sized(join([]byte{0, 0, 0, 0}, opts)[:len(opts)], 300)
		pieces(t, "behind a byte 0", p, 68, divided(p, 68))
	}
}

func TestSplitBeyondTheGreatestOff(t *testing.T) {
	p := sized(nil, 49)
	for off := 8180; off <= 8191; off++ {
		p.Off = off
		if off <= 8185 {
			shaped(t, "a second one", p, 68, []shape{{off, true, 0, 48}, {off + 6, false, 0, 1}})
		} else {
			refused(t, "a second one", p, 68, api.ErrRange)
		}
		whole(t, "one that fits", p, 69)
	}
}

// fault is something by which a packet that has to be divided can't be.
type fault struct {
	what string
	set  func(p *api.IP, mtu *int)
	e    api.Errno
}

// faults are told in the order of their errors: of several the first one's is answered.
func faults() [][]fault {
	return [][]fault{
		{
			{"Off -1", func(p *api.IP, mtu *int) { p.Off = -1 }, api.ErrArg},
			{"Off 8192", func(p *api.IP, mtu *int) { p.Off = 8192 }, api.ErrArg},
		},
		{
			{"a byte of options more", func(p *api.IP, mtu *int) { p.Opts = join(p.Opts, []byte{1}) }, api.ErrArg},
			{"44 bytes of options", func(p *api.IP, mtu *int) { p.Opts = join(p.Opts, repeat([]byte{1}, 44-len(p.Opts))) }, api.ErrArg},
		},
		{
			{"too long", func(p *api.IP, mtu *int) { p.Data = make([]byte, 65536) }, api.ErrLong},
		},
		{
			{"mtu 67", func(p *api.IP, mtu *int) { *mtu = 67 }, api.ErrArg},
			{"mtu 65536", func(p *api.IP, mtu *int) { *mtu = 65536 }, api.ErrArg},
			{"mtu -1", func(p *api.IP, mtu *int) { *mtu = -1 }, api.ErrArg},
		},
		{
			{"Whole", func(p *api.IP, mtu *int) { p.Whole = true }, api.ErrWhole},
		},
		{
			{"a length 0", func(p *api.IP, mtu *int) { p.Opts = []byte{130, 0, 0, 0} }, api.ErrForm},
			{"no next byte", func(p *api.IP, mtu *int) { p.Opts = []byte{1, 1, 1, 7} }, api.ErrForm},
		},
		{
			{"the second one beyond", func(p *api.IP, mtu *int) { p.Off = 8190 }, api.ErrRange},
			{"the last one beyond", func(p *api.IP, mtu *int) { p.Off = 8132 }, api.ErrRange},
		},
	}
}

// Every choice of faults, at most one of each kind.
func TestSplitAnswersTheFirstError(t *testing.T) {
	kinds := faults()
	var all func(chosen []fault, from int)
	all = func(chosen []fault, from int) {
		if from < len(kinds) {
			all(chosen, from+1)
			for _, f := range kinds[from] {
				all(append(chosen, f), from+1)
			}
			return
		}
		p, mtu := sized(option(130, 4), 500), 68
		var names []string
		// The last one first: what an earlier one says of the same field holds.
		for i := len(chosen) - 1; i >= 0; i-- {
			chosen[i].set(&p, &mtu)
			names = append(names, chosen[i].what)
		}
		if len(chosen) == 0 {
			pieces(t, "no fault", p, mtu, divided(p, mtu))
			return
		}
		refused(t, strings.Join(names, ", "), p, mtu, chosen[0].e)
	}
	all(make([]fault, 0, len(kinds)), 0)
}
