package reasm_test

import (
	"math"
	"testing"

	"towrope/api"
)

// P12.4
func TestExpireInAnEmptyTable(t *testing.T) {
	for _, now := range []int{math.MinInt, -1, 0, 1, api.MaxTick, math.MaxInt} {
		x := table(t, 3, 10)
		expire(t, x, now, nil, empty)
		add(x, 0, part(0, true, 8, 1))
		add(x, 0, part(1, false, 8, 1))
		expire(t, x, now, nil, empty)
	}
}

// P12.4: a packet waits until its tick, and at that tick no longer.
func TestExpireHasItsTick(t *testing.T) {
	first := part(0, true, 8, 1)
	for _, test := range []struct {
		now  int
		gone bool
	}{{math.MinInt, false}, {-1, false}, {0, false}, {4, false}, {13, false}, {14, true}, {15, true}, {api.MaxTick, true}, {math.MaxInt, true}} {
		x := table(t, 3, 10)
		add(x, 4, first)
		if test.gone {
			expire(t, x, test.now, []api.IP{first}, empty)
			expire(t, x, test.now, nil, empty)
			// The packet may begin to wait again; nothing of it is there any more.
			expect(t, x, 30, part(1, false, 8, 2), waiting, state{1, 8, 40, true})
			expire(t, x, 40, nil, empty)
		} else {
			expire(t, x, test.now, nil, state{1, 8, 14, true})
			expect(t, x, 30, part(1, false, 8, 2), done(joined(first, first.Data, noise(8, 2))), empty)
		}
	}
	// Later than MaxTick, for one that began to wait just then.
	x := table(t, 3, 65535)
	add(x, api.MaxTick, first)
	expire(t, x, api.MaxTick+65534, nil, state{1, 8, api.MaxTick + 65535, true})
	expire(t, x, api.MaxTick+65535, []api.IP{first}, empty)
}

// P12.4: the result is in the order in which the packets began to wait, whatever the ticks until which they do, and when their first fragments arrived.
func TestExpireHasTheOrderInWhichTheyBegan(t *testing.T) {
	first, later := part(0, true, 8, 1), part(1, true, 16, 2)
	x := table(t, 8, 10)
	for i, now := range []int{50, 20, 40, 20, 30, 50} {
		add(x, now, of(uint16(i), later))
	}
	for _, i := range []uint16{4, 1, 5, 3, 0} {
		add(x, 0, of(i, first))
	}
	expire(t, x, 29, nil, state{6, 136, 30, true})
	expire(t, x, 45, []api.IP{of(1, first), of(3, first), of(4, first)}, state{3, 64, 50, true})
	// Of those that began before, one is complete; another one of the same name begins behind the others.
	end := part(3, false, 8, 3)
	expect(t, x, 0, of(0, end), done(of(0, joined(first, first.Data, later.Data, end.Data))), state{2, 40, 50, true})
	expect(t, x, 1, of(0, first), waiting, state{3, 48, 11, true})
	expect(t, x, 1, of(1, first), waiting, state{4, 56, 11, true})
	expire(t, x, 60, []api.IP{of(5, first), of(0, first), of(1, first)}, empty)
}

// P12.4: all of those that a full table has, with the same tick, and with ticks in each order.
func TestExpireManyAtOnce(t *testing.T) {
	for _, step := range []int{0, 1, -1} {
		x := table(t, 64, 100)
		var want []api.IP
		for i := range 64 {
			p := of(uint16(i*7919), part(0, true, 8, uint32(i)))
			want = append(want, p)
			add(x, 1000+step*i, p)
		}
		at := 1000 + min(0, 63*step) + 100
		expire(t, x, at-1, nil, state{64, 512, at, true})
		expire(t, x, 1200, want, empty)
	}
	// One after the other.
	x := table(t, 64, 100)
	for i := range 64 {
		add(x, i, of(uint16(i), part(0, true, 8, uint32(i))))
	}
	for i := range 63 {
		expire(t, x, 100+i, []api.IP{of(uint16(i), part(0, true, 8, uint32(i)))}, state{63 - i, 8 * (63 - i), 101 + i, true})
	}
}

// P12.4: a packet without a first fragment is removed, but is not in the result.
func TestExpireWithoutAFirstFragment(t *testing.T) {
	first, between, last := part(0, true, 8, 1), part(1, true, 16, 2), part(5, false, 3, 3)
	x := table(t, 4, 10)
	add(x, 0, of(1, between))
	expire(t, x, 10, nil, empty)
	add(x, 0, of(1, between))
	add(x, 0, of(2, first))
	add(x, 0, of(3, last))
	add(x, 0, of(4, last))
	add(x, 0, of(4, first))
	expire(t, x, 10, []api.IP{of(2, first), of(4, first)}, empty)
	// Nothing of them is kept: neither an end, nor a byte, nor a first fragment.
	expect(t, x, 3, of(4, part(8, true, 8, 4)), waiting, state{1, 8, 13, true})
	expect(t, x, 3, of(3, part(9, false, 2, 5)), waiting, state{2, 10, 13, true})
	expire(t, x, 13, nil, empty)
}

// P12.4: first fragments are answered as they arrived: with More, their own options and their own bytes alone.
func TestExpireAnswersFirstFragmentsAsTheyArrived(t *testing.T) {
	for _, change := range []func(p *api.IP){
		func(p *api.IP) {},
		func(p *api.IP) { p.Opts = nil },
		func(p *api.IP) { p.Opts = noise(40, 1) },
		func(p *api.IP) { p.Opts = noise(41, 1) },
		func(p *api.IP) { p.Data = noise(65512, 1) },
		func(p *api.IP) { p.Tos, p.TTL, p.Whole = 255, 0, true },
		func(p *api.IP) { p.Src, p.Dst, p.Proto, p.Ident = 0, 0, 0, 0 },
		func(p *api.IP) { p.Src, p.Dst, p.Proto, p.Ident = math.MaxUint32, math.MaxUint32, 255, 65535 },
	} {
		first := with(part(0, true, 16, 1), change)
		x := table(t, 4, 10)
		add(x, 0, first)
		expire(t, x, 10, []api.IP{first}, empty)
		// With its bytes present already, with more behind them, and with another one of its kind.
		add(x, 0, with(first, func(p *api.IP) { p.Off, p.Data = 1, noise(16, 7) }))
		add(x, 0, first)
		add(x, 0, with(first, func(p *api.IP) { p.Opts, p.Data = noise(8, 8), noise(24, 9) }))
		expire(t, x, 10, []api.IP{first}, empty)
	}
}

// P12.4: Next, Len and Held with none, one and several packets, after each kind of call.
func TestNextLenAndHeld(t *testing.T) {
	first, between, last := part(0, true, 8, 1), part(1, true, 16, 2), part(3, false, 3, 3)
	x := table(t, 3, 10)
	if got := stateOf(x); got != empty {
		t.Error("a new table:", got)
	}
	expect(t, x, 100, of(1, between), waiting, state{1, 16, 110, true})
	expect(t, x, 99, of(2, last), waiting, state{2, 19, 109, true})
	expect(t, x, 101, of(3, first), waiting, state{3, 27, 109, true})
	expect(t, x, 1, of(1, between), waiting, state{3, 27, 109, true})
	expect(t, x, 1, of(1, part(0, true, 16, 5)), waiting, state{3, 35, 109, true})
	expect(t, x, 1, of(3, part(0, true, 24, 6)), waiting, state{3, 51, 109, true})
	refuse(t, x, 1, of(2, part(3, false, 4, 7)), stale)
	refuse(t, x, 1, of(4, first), full)
	refuse(t, x, 1, of(2, part(1, true, 7, 7)), badForm)
	refuse(t, x, 1, of(4, part(0, false, 7, 7)), done(of(4, part(0, false, 7, 7))))
	expire(t, x, 108, nil, state{3, 51, 109, true})
	expire(t, x, 109, nil, state{2, 48, 110, true})
	want := of(1, joined(part(0, true, 16, 5), noise(16, 5)[:8], between.Data, last.Data))
	expect(t, x, 1, of(1, last), done(want), state{1, 24, 111, true})
	expect(t, x, 0, of(4, first), waiting, state{2, 32, 10, true})
	expire(t, x, 111, []api.IP{of(3, first), of(4, first)}, empty)
	if at, ok := x.Next(); at != 0 || ok {
		t.Error("Next of none:", at, ok)
	}
}
