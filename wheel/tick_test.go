package wheel_test

import (
	"slices"
	"testing"

	"towrope/api"
)

// P13.2
func TestTickHasItsBounds(t *testing.T) {
	for _, now := range []int{0, 1, 63, 64, 4097, 1 << 30, api.MaxTick - 1, api.MaxTick} {
		w := start(t, now)
		set(t, w, 1, api.MaxTick)
		set(t, w, 2, 0)
		for _, to := range append(outside(), now-1, now-64, now/2-1, now>>6-1) {
			stay(t, w, to)
		}
		if now > 0 {
			stay(t, w, 0)
		}
		due(t, w, 1, api.MaxTick)
		due(t, w, 2, 0)
		if now == api.MaxTick {
			tick(t, w, now, 2, 1)
			continue
		}
		tick(t, w, now, 2) // just at it
		tick(t, w, now)    // and again
		if now+1 < api.MaxTick {
			tick(t, w, now+1) // one more
			stay(t, w, now)
		}
		tick(t, w, api.MaxTick, 1) // far ahead
		tick(t, w, api.MaxTick)
		for _, to := range append(outside(), api.MaxTick-1, now) {
			stay(t, w, to)
		}
	}
}

// orders are all orders of the numbers less than n.
func orders(n int) [][]int {
	if n == 0 {
		return [][]int{{}}
	}
	var all [][]int
	for _, order := range orders(n - 1) {
		for at := range n {
			all = append(all, slices.Insert(slices.Clone(order), at, n-1))
		}
	}
	return all
}

// P13.2: by tick, in whichever order they were set.
func TestTickReturnsInTheOrderOfTheTicks(t *testing.T) {
	for _, ticks := range [][]int{
		{101, 102, 103, 104, 105},
		{101, 128, 200, 4096, 4097},
		{128, 129, 130, 191, 192}, // of one slot, and the next one
		{4096, 4097, 4160, 5000, 8191},
		{1 << 18, 1 << 24, 1 << 30, 1 << 36, 1 << 40},
		{0, 64, 99, 100, 101},
		{0, 1, 2, 3, 4},
	} {
		for _, order := range orders(5) {
			for _, now := range []int{ticks[4], max(ticks[4], 1<<39), api.MaxTick} {
				w := start(t, 100)
				for _, id := range order {
					set(t, w, id, ticks[id])
				}
				expect(t, w, some(100, 5, ticks[0]))
				tick(t, w, max(now, 100), 0, 1, 2, 3, 4)
				expect(t, w, bare(max(now, 100)))
			}
		}
	}
}

// P13.2: for equal ticks as they were set, whatever their ids are.
func TestTickReturnsEqualTicksAsTheyWereSet(t *testing.T) {
	for _, at := range []int{0, 99, 100, 101, 127, 128, 5000, 1 << 35, api.MaxTick} {
		for _, order := range orders(5) {
			w := start(t, 100)
			for _, id := range order {
				set(t, w, id, at)
			}
			tick(t, w, max(at, 100), order...)
		}
	}
	// Two ticks by turns.
	w := start(t, 100)
	for id := range 10 {
		set(t, w, -id, 5000-id%2)
	}
	tick(t, w, 5001, -1, -3, -5, -7, -9, 0, -2, -4, -6, -8)
}

// Many timers of equal ticks: more than a sort leaves in their order by chance.
func TestTickReturnsManyEqualTicksAsTheyWereSet(t *testing.T) {
	w := start(t, 0)
	var want []int
	for id := range 4096 {
		set(t, w, id, 8192+id*7%4)
	}
	for rest := range 4 {
		for id := range 4096 {
			if id*7%4 == rest {
				want = append(want, id)
			}
		}
	}
	tick(t, w, 10000, want...)
}

// P13.2: not one tick too early, and not too late.
func TestTickReturnsWhatIsDueAndNoMore(t *testing.T) {
	w := start(t, 0)
	tick(t, w, 10) // none is set
	for _, at := range []int{30, 20, 40, 20} {
		set(t, w, w.Len(), at)
	}
	tick(t, w, 19)       // none is due
	tick(t, w, 20, 1, 3) // just now
	tick(t, w, 29)
	tick(t, w, 31, 0) // one tick ago
	tick(t, w, 39)
	tick(t, w, 40, 2)
	tick(t, w, 41)
	tick(t, w, api.MaxTick) // each was returned once
}

// One that was returned is gone: it can be set again, as a new one.
func TestReturnedIsGone(t *testing.T) {
	w := start(t, 0)
	for round := range 200 {
		at := 37 * (round + 1)
		set(t, w, 1, at)
		set(t, w, 2, at-1)
		expect(t, w, some(37*round, 2, at-1))
		tick(t, w, at, 2, 1)
		expect(t, w, bare(at))
		stop(t, w, 1, false)
		tick(t, w, at)
	}
}

// P13.2: timers for ticks that have passed are due at once, in the order of their ticks.
func TestTicksThatHavePassed(t *testing.T) {
	for _, now := range []int{4096, 4097, 4096 + 64, 5000, 1 << 30, 1<<30 + 1, api.MaxTick} {
		for _, step := range []int{0, 1, 63, 64, 5000, 1 << 20} {
			if now+step > api.MaxTick {
				continue
			}
			w := start(t, now)
			for id, at := range []int{now - 1, 50, now, now - 2, 50, 0, now - 64, now - 4000, now} {
				set(t, w, id, at)
			}
			want := []int{5, 1, 4, 7, 6, 3, 0, 2, 8}
			if step > 0 {
				set(t, w, 100, now+1)
				want = append(want, 100)
			}
			expect(t, w, some(now, len(want), 0))
			tick(t, w, now+step, want...)
			expect(t, w, bare(now+step))
			set(t, w, 1, 50) // and once more
			expect(t, w, some(now+step, 1, 50))
			tick(t, w, now+step, 1)
		}
	}
}

// A timer at each distance of one digit, with lower digits that are all 0, all 63, or between, and the ticks just ahead of it and behind it.
func TestEachDigit(t *testing.T) {
	for no := range 7 {
		one := 1 << (6 * no)
		for _, low := range []int{0, one / 3, one - 1} {
			for _, now := range []int{0, 5 * one, 5*one + low, 62*one + low, 63*one + low} {
				for digits := range 65 {
					for _, rest := range []int{0, one / 3, one - 1} {
						at := now/one*one + digits*one + rest
						if at > api.MaxTick || at <= now {
							continue
						}
						w := start(t, now)
						set(t, w, 1, at)
						set(t, w, 2, at)
						set(t, w, 3, now)
						expect(t, w, some(now, 3, now))
						tick(t, w, now, 3)
						expect(t, w, some(now, 2, at))
						tick(t, w, now+(at-now)/2)
						if now < at-1 {
							tick(t, w, at-1)
						}
						expect(t, w, some(at-1, 2, at))
						tick(t, w, at, 1, 2)
					}
				}
			}
		}
	}
}

// Where a digit turns over, all lower ones do: one tick changes each of them.
func TestDigitsThatTurnOver(t *testing.T) {
	for no := range 7 {
		for _, many := range []int{1, 2, 63} {
			edge := many << (6 * no)
			if edge > api.MaxTick {
				continue
			}
			w := start(t, edge-1)
			for id, at := range []int{edge + 1, edge, edge - 1, edge + 2, edge, edge + 1} {
				set(t, w, id, at)
			}
			tick(t, w, edge-1, 2)
			expect(t, w, some(edge-1, 5, edge))
			tick(t, w, edge, 1, 4)
			tick(t, w, edge+1, 0, 5)
			tick(t, w, edge+2, 3)
			expect(t, w, bare(edge+2))
		}
	}
}

// The last ticks that there are.
func TestLastTicks(t *testing.T) {
	w := start(t, api.MaxTick-3)
	for id := range 4 {
		set(t, w, id, api.MaxTick-id)
	}
	tick(t, w, api.MaxTick-3, 3)
	tick(t, w, api.MaxTick-2, 2)
	tick(t, w, api.MaxTick-1, 1)
	stay(t, w, api.MaxTick+1)
	tick(t, w, api.MaxTick, 0)
	set(t, w, 4, api.MaxTick)
	set(t, w, 5, 0)
	set(t, w, 6, api.MaxTick-1)
	expect(t, w, some(api.MaxTick, 3, 0))
	tick(t, w, api.MaxTick, 5, 6, 4)
	expect(t, w, bare(api.MaxTick))
}
