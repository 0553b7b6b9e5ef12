package reasm_test

import (
	"math"
	"testing"

	"towrope/api"
	"towrope/reasm"
)

// P12.2
func TestAddHasItsBounds(t *testing.T) {
	for _, now := range []int{math.MinInt, -1, api.MaxTick + 1, math.MaxInt} {
		x := table(t, 2, 10)
		refuse(t, x, now, part(0, true, 8, 1), badRange)
		refuse(t, x, now, part(1, false, 8, 1), badRange)
		refuse(t, x, now, part(0, false, 8, 1), badRange)
	}
	for _, off := range []int{math.MinInt, math.MinInt/8 + 1, -8192, -1, 8192, math.MaxInt/8 + 1, math.MaxInt} {
		x := table(t, 2, 10)
		refuse(t, x, 0, part(off, true, 8, 1), badRange)
		refuse(t, x, 0, part(off, false, 8, 1), badRange)
		refuse(t, x, 0, part(off, false, 0, 1), badRange)
	}
	for _, now := range []int{0, 1, api.MaxTick - 1, api.MaxTick} {
		for _, off := range []int{0, 1, 8188} {
			x := table(t, 2, 10)
			expect(t, x, now, part(off, true, 8, 1), waiting, state{1, 8, now + 10, true})
		}
		// Nothing can be at an Off that is no more than MaxOff, but so great.
		refuse(t, table(t, 2, 10), now, part(8191, true, 8, 1), tooLong)
		refuse(t, table(t, 2, 10), now, part(8191, false, 1, 1), tooLong)
		refuse(t, table(t, 2, 10), now, part(8191, false, 0, 1), badForm)
	}
}

// complete are complete packets, the strange ones too.
func complete() []api.IP {
	return []api.IP{
		{},
		part(0, false, 0, 1), part(0, false, 1, 1), part(0, false, 7, 1), part(0, false, 8, 1), part(0, false, 9, 1),
		part(0, false, 65515, 1), part(0, false, 65516, 1), part(0, false, 70000, 1),
		with(part(0, false, 8, 1), func(p *api.IP) { p.Whole = true }),
		with(part(0, false, 8, 1), func(p *api.IP) { p.Opts = nil }),
		with(part(0, false, 8, 1), func(p *api.IP) { p.Opts = noise(44, 1) }),
		with(part(0, false, 8, 1), func(p *api.IP) { p.Opts = noise(5, 1) }),
		with(part(0, false, 65515, 1), func(p *api.IP) { p.Opts = noise(40, 1) }),
		with(part(0, false, 8, 1), func(p *api.IP) { p.TTL, p.Proto, p.Src, p.Dst, p.Tos = 0, 0, 0, 0, 255 }),
	}
}

// P12.2: a complete packet is answered, whatever waits, and nothing is changed.
func TestCompletePackets(t *testing.T) {
	first, last := part(0, true, 8, 1), part(2, false, 8, 2)
	between := part(1, true, 8, 3)
	for _, p := range complete() {
		for _, now := range []int{0, 50, api.MaxTick} {
			none := table(t, 1, 10)
			expect(t, none, now, p, done(p), empty)
			expire(t, none, math.MaxInt, nil, empty)

			filled := table(t, 1, 10)
			add(filled, 3, of(99, first))
			refuse(t, filled, now, p, done(p))

			same := table(t, 1, 10)
			add(same, 3, with(first, func(q *api.IP) { q.Src, q.Dst, q.Proto, q.Ident = p.Src, p.Dst, p.Proto, p.Ident }))
			refuse(t, same, now, p, done(p))
		}
	}
	// With fragments of the same packet before and after it.
	x := table(t, 1, 10)
	expect(t, x, 0, last, waiting, state{1, 8, 10, true})
	refuse(t, x, 1, part(0, false, 30, 9), done(part(0, false, 30, 9)))
	expect(t, x, 2, first, waiting, state{1, 16, 10, true})
	refuse(t, x, 3, part(0, false, 8, 9), done(part(0, false, 8, 9)))
	expect(t, x, 4, between, done(joined(first, first.Data, between.Data, last.Data)), empty)
}

// P12.2: a fragment has bytes, and if others follow it, a multiple of eight.
func TestDataOfNoForm(t *testing.T) {
	for _, off := range []int{0, 1, 5, 8000, 8191} {
		refuse(t, table(t, 1, 10), 0, part(off, true, 0, 1), badForm)
		for _, n := range []int{1, 2, 4, 7, 9, 12, 15, 17, 65507, 65515, 65519, 65521} {
			refuse(t, table(t, 1, 10), 0, part(off, true, n, 1), badForm)
		}
		if off > 0 {
			refuse(t, table(t, 1, 10), 0, part(off, false, 0, 1), badForm)
		}
	}
	for _, n := range []int{8, 16, 24, 32, 800} {
		expect(t, table(t, 1, 10), 0, part(0, true, n, 1), waiting, state{1, n, 10, true})
		expect(t, table(t, 1, 10), 0, part(3, true, n, 1), waiting, state{1, n, 10, true})
	}
	for _, n := range []int{1, 2, 4, 7, 8, 9, 12, 15, 16, 17} {
		expect(t, table(t, 1, 10), 0, part(3, false, n, 1), waiting, state{1, n, 10, true})
	}
	// Nil and empty are the same.
	for _, data := range [][]byte{nil, {}, make([]byte, 0, 8)} {
		refuse(t, table(t, 1, 10), 0, piece(0, true, data), badForm)
		refuse(t, table(t, 1, 10), 0, piece(1, false, data), badForm)
		expect(t, table(t, 1, 10), 0, piece(0, false, data), done(piece(0, false, nil)), empty)
	}
}

// P12.2: no data end behind index 65515.
func TestDataThatEndTooLate(t *testing.T) {
	fit := []api.IP{
		part(8189, false, 3, 1), part(8189, false, 1, 1), part(8188, false, 11, 1), part(8188, true, 8, 1), part(8187, true, 16, 1),
		part(1, false, 65507, 1), part(1, true, 65504, 1), part(0, true, 65512, 1),
	}
	for _, p := range fit {
		expect(t, table(t, 1, 10), 0, p, waiting, state{1, len(p.Data), 10, true})
	}
	long := []api.IP{
		part(8189, false, 4, 1), part(8190, false, 1, 1), part(8191, false, 1, 1), part(8188, false, 12, 1), part(8189, true, 8, 1), part(8188, true, 16, 1),
		part(1, false, 65508, 1), part(1, true, 65512, 1), part(0, true, 65520, 1), part(0, true, 65536, 1), part(1, false, 70000, 1),
	}
	for _, p := range long {
		x := table(t, 1, 10)
		refuse(t, x, 0, p, tooLong)
		expire(t, x, math.MaxInt, nil, empty)
	}
}

// P12.2: ErrFull is for packets that do not wait yet.
func TestFull(t *testing.T) {
	x := table(t, 2, 10)
	first, between, last := part(0, true, 8, 1), part(1, true, 8, 2), part(2, false, 8, 3)
	add(x, 0, of(1, first))
	add(x, 1, of(2, last))
	for _, p := range []api.IP{first, between, last} {
		refuse(t, x, 2, of(3, p), full)
	}
	expect(t, x, 2, of(1, between), waiting, state{2, 24, 10, true})
	expect(t, x, 2, of(2, between), waiting, state{2, 32, 10, true})
	refuse(t, x, 2, of(3, first), full)
	// One that is complete makes room, and so does one that is expired.
	expect(t, x, 3, of(1, last), done(of(1, joined(first, first.Data, between.Data, last.Data))), state{1, 16, 11, true})
	expect(t, x, 3, of(3, first), waiting, state{2, 24, 11, true})
	refuse(t, x, 3, of(1, first), full)
	expire(t, x, 11, nil, state{1, 8, 13, true})
	expect(t, x, 4, of(1, first), waiting, state{2, 16, 13, true})
	refuse(t, x, 4, of(4, first), full)
}

// P12.2
func TestStale(t *testing.T) {
	first, second, third := part(0, true, 8, 1), part(1, true, 8, 2), part(2, false, 5, 3)
	tests := []struct {
		what string
		had  []api.IP
		p    api.IP
		want answer
	}{
		{"data after its end", []api.IP{part(5, true, 8, 4)}, part(2, false, 5, 5), stale},
		{"data after its end, by a byte", []api.IP{part(2, true, 8, 4)}, part(2, false, 7, 5), stale},
		{"data that end at its end", []api.IP{part(2, true, 8, 4)}, part(2, false, 8, 5), waiting},
		{"data that end ahead of its end", []api.IP{part(2, true, 8, 4)}, part(2, false, 9, 5), waiting},
		{"data after its end, and others that are not", []api.IP{part(5, true, 8, 4), first, second}, part(2, false, 5, 5), stale},
		{"data after its end, which end at the same index as others", []api.IP{part(1, true, 24, 4), part(2, true, 8, 4)}, part(2, false, 8, 5), stale},
		{"an end that is less, with no data behind", []api.IP{part(2, false, 5, 3)}, part(1, false, 8, 5), stale},
		{"an end that is less, by a byte", []api.IP{third}, part(2, false, 4, 5), stale},
		{"an end that is greater, by a byte", []api.IP{third}, part(2, false, 6, 5), stale},
		{"an end that is greater", []api.IP{third}, part(3, false, 5, 5), stale},
		{"the same end", []api.IP{third}, part(2, false, 5, 5), waiting},
		{"the same end, from an index ahead", []api.IP{third}, part(1, false, 13, 5), waiting},
		{"data beyond the end", []api.IP{third}, part(2, true, 8, 5), stale},
		{"data far beyond the end", []api.IP{third}, part(10, true, 8, 5), stale},
		{"data beyond the end, from the front", []api.IP{third}, part(0, true, 24, 5), stale},
		{"data just to the end", []api.IP{part(2, false, 8, 3)}, part(2, true, 8, 5), waiting},
		{"data just to the end, and more", []api.IP{part(2, false, 8, 3)}, part(1, true, 16, 5), waiting},
		{"data from the end on", []api.IP{part(2, false, 8, 3)}, part(3, true, 8, 5), stale},
		{"data ahead of the end", []api.IP{third}, part(1, true, 8, 5), waiting},
	}
	for _, test := range tests {
		x := table(t, 1, 10)
		for _, p := range test.had {
			if got := add(x, 0, p); !got.equal(waiting) {
				t.Fatal(test.what, got)
			}
		}
		was := stateOf(x)
		if got := add(x, 0, test.p); !got.equal(test.want) {
			t.Errorf("%s: %v, not %v", test.what, got, test.want)
		}
		if test.want.e != api.OK && stateOf(x) != was {
			t.Errorf("%s: from %v to %v", test.what, was, stateOf(x))
		}
	}
}

// Nothing has changed after an error: neither the end, nor the first fragment, nor a byte.
func TestNothingHasChangedAfterAnError(t *testing.T) {
	first, second, third := part(0, true, 8, 1), part(1, true, 8, 2), part(2, false, 5, 3)
	wrong := []api.IP{
		part(-1, true, 8, 9), part(8192, false, 8, 9), part(0, true, 0, 9), part(0, true, 9, 9), part(1, false, 0, 9),
		part(0, true, 65520, 9), part(1, false, 65508, 9),
	}
	late := []api.IP{part(1, false, 7, 9), part(1, false, 4, 9), part(0, true, 24, 9), part(3, true, 8, 9), part(3, false, 8, 9), part(1, true, 16, 9)}
	for turn := range 3 {
		x := table(t, 1, 10)
		order := []api.IP{[]api.IP{third, first, second}[turn], []api.IP{first, second, third}[turn], []api.IP{second, third, first}[turn]}
		for i, p := range order {
			for _, q := range wrong {
				if got, was := add(x, 1, q), stateOf(x); got.e == api.OK || was != stateOf(x) {
					t.Error(told(q), got)
				}
				if got := add(x, -1, p); !got.equal(badRange) {
					t.Error(told(p), got)
				}
			}
			if i > 0 {
				refuse(t, x, 1, of(5, first), full)
			}
			if i < 2 {
				expect(t, x, 4, p, waiting, stateAfter(order[:i+1]))
			} else {
				expect(t, x, 4, p, done(joined(first, first.Data, second.Data, third.Data)), empty)
			}
			if i == 0 && turn == 0 {
				for _, q := range late {
					refuse(t, x, 9, q, stale)
				}
			}
		}
	}
}

// stateAfter is the state of a table to which these fragments were added at tick 4, none of which overlaps another one, with life 10.
func stateAfter(l []api.IP) state {
	n := 0
	for _, p := range l {
		n += len(p.Data)
	}
	return state{1, n, 14, true}
}

// P12.2: the error that the chapter names first is answered.
func TestWhichErrorComesFirst(t *testing.T) {
	var none *reasm.Table
	filled := table(t, 1, 10)
	add(filled, 0, of(9, part(0, true, 8, 1)))
	ended := table(t, 1, 10)
	add(ended, 0, part(2, false, 8, 1))
	tests := []struct {
		what string
		x    *reasm.Table
		now  int
		p    api.IP
		want api.Errno
	}{
		{"nil, and all others", none, -1, part(-1, true, 65521, 1), api.ErrNil},
		{"nil, and a complete packet", none, 0, part(0, false, 8, 1), api.ErrNil},
		{"tick, and a complete packet", filled, -1, part(0, false, 8, 1), api.ErrRange},
		{"tick, and no data", filled, -1, part(1, false, 0, 1), api.ErrRange},
		{"tick, too long and full", filled, api.MaxTick + 1, part(8190, true, 8, 1), api.ErrRange},
		{"tick and stale", ended, -1, part(3, true, 8, 1), api.ErrRange},
		{"Off and no data", filled, 0, part(8192, true, 0, 1), api.ErrRange},
		{"Off, and too long", filled, 0, part(8192, true, 8, 1), api.ErrRange},
		{"Off and full", filled, 0, part(-1, true, 8, 1), api.ErrRange},
		{"Off and stale", ended, 0, part(8192, false, 8, 1), api.ErrRange},
		{"no data, and too long", filled, 0, part(8190, true, 0, 1), api.ErrForm},
		{"no data, and full", filled, 0, part(1, false, 0, 1), api.ErrForm},
		{"no data, and stale", ended, 0, part(5, false, 0, 1), api.ErrForm},
		{"nine bytes, and too long", filled, 0, part(8189, true, 9, 1), api.ErrForm},
		{"nine bytes, and stale", ended, 0, part(2, true, 9, 1), api.ErrForm},
		{"too long, and full", filled, 0, part(8189, true, 8, 1), api.ErrLong},
		{"too long, and stale", ended, 0, part(8189, false, 4, 1), api.ErrLong},
		{"full alone", filled, 0, part(3, true, 8, 1), api.ErrFull},
		{"stale alone", ended, 0, part(3, true, 8, 1), api.ErrStale},
	}
	for _, test := range tests {
		was := stateOf(test.x)
		if got := add(test.x, test.now, test.p); !got.equal(answer{e: test.want}) {
			t.Errorf("%s: %v, not error %d", test.what, got, int(test.want))
		}
		if stateOf(test.x) != was {
			t.Errorf("%s: from %v to %v", test.what, was, stateOf(test.x))
		}
	}
}

// P12.2: what differs in Src, Dst, Proto or Ident alone belongs to another packet, what differs in other fields alone does not.
func TestWhichFragmentsBelongTogether(t *testing.T) {
	first, last := part(0, true, 8, 1), part(1, false, 8, 2)
	others := []func(p *api.IP){
		func(p *api.IP) { p.Src++ }, func(p *api.IP) { p.Src ^= 1 << 31 },
		func(p *api.IP) { p.Dst++ }, func(p *api.IP) { p.Dst ^= 1 << 31 },
		func(p *api.IP) { p.Proto++ }, func(p *api.IP) { p.Proto ^= 1 << 7 },
		func(p *api.IP) { p.Ident++ }, func(p *api.IP) { p.Ident ^= 1 << 15 },
		func(p *api.IP) { p.Src, p.Dst = p.Dst, p.Src },
	}
	for i, other := range others {
		x := table(t, 2, 10)
		theirs, theirLast := with(first, other), with(last, other)
		expect(t, x, 0, first, waiting, state{1, 8, 10, true})
		expect(t, x, 1, theirLast, waiting, state{2, 16, 10, true})
		expect(t, x, 2, last, done(joined(first, first.Data, last.Data)), state{1, 8, 11, true})
		expect(t, x, 3, theirs, done(joined(theirs, first.Data, last.Data)), empty)
		y := table(t, 1, 10)
		add(y, 0, first)
		refuse(t, y, 0, theirs, full)
		if t.Failed() {
			t.Fatal("other packet", i)
		}
	}
	for i, same := range []func(p *api.IP){
		func(p *api.IP) { p.Tos = 0 }, func(p *api.IP) { p.TTL = 1 }, func(p *api.IP) { p.Whole = true },
		func(p *api.IP) { p.Opts = nil }, func(p *api.IP) { p.Opts = noise(12, 4) },
	} {
		x := table(t, 1, 10)
		expect(t, x, 0, first, waiting, state{1, 8, 10, true})
		expect(t, x, 0, with(last, same), done(joined(first, first.Data, last.Data)), empty)
		expect(t, x, 0, last, waiting, state{1, 8, 10, true})
		expect(t, x, 0, with(first, same), done(joined(with(first, same), first.Data, last.Data)), empty)
		if t.Failed() {
			t.Fatal("same packet", i)
		}
	}
}

// P12.2: it waits from its first arriving fragment on, whatever tick others have.
func TestUntilWhenAPacketWaits(t *testing.T) {
	// The same one, first fragments, more data, the last fragment, and one that is refused.
	others := []api.IP{part(3, true, 8, 1), part(0, true, 8, 2), part(0, true, 16, 3), part(2, true, 16, 4), part(5, false, 8, 5), part(9, true, 8, 6)}
	for _, life := range []int{1, 10, 65535} {
		for _, now := range []int{0, 1000, api.MaxTick} {
			for _, later := range []int{0, 1, 999, 1000, 1001, api.MaxTick - 1, api.MaxTick} {
				x := table(t, 3, life)
				expect(t, x, now, part(3, true, 8, 1), waiting, state{1, 8, now + life, true})
				for _, p := range others {
					add(x, later, p)
					if at, ok := x.Next(); at != now+life || !ok {
						t.Fatal("Next:", at, ok, "not", now+life)
					}
				}
				expire(t, x, now+life-1, nil, stateOf(x))
				expire(t, x, now+life, []api.IP{part(0, true, 8, 2)}, empty)
			}
		}
	}
}
