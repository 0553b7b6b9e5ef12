package wheel_test

import (
	"math"
	"testing"

	"towrope/api"
)

// P13.1
func TestSetHasItsBounds(t *testing.T) {
	for _, now := range []int{0, 1, 77, 1 << 20, api.MaxTick - 1, api.MaxTick} {
		for _, at := range []int{0, 1, now - 1, now, now + 1, api.MaxTick - 1, api.MaxTick} {
			if at < 0 || at > api.MaxTick {
				continue
			}
			w := start(t, now)
			set(t, w, 9, at)
			expect(t, w, some(now, 1, at))
			if at > now {
				tick(t, w, at-1)
			}
			tick(t, w, max(at, now), 9)
			expect(t, w, bare(max(at, now)))
		}
		w := start(t, now)
		for _, at := range outside() {
			refuse(t, w, 1, at, api.ErrRange)
		}
		set(t, w, 1, now)
		set(t, w, 2, api.MaxTick)
		for _, at := range outside() {
			refuse(t, w, 1, at, api.ErrRange)
			refuse(t, w, 2, at, api.ErrRange)
			refuse(t, w, 3, at, api.ErrRange)
		}
		if now < api.MaxTick {
			tick(t, w, now, 1)
			tick(t, w, api.MaxTick-1)
			tick(t, w, api.MaxTick, 2)
		} else {
			tick(t, w, now, 1, 2)
		}
	}
}

// P13.1: any number is an id.
func TestAnyNumberIsAnId(t *testing.T) {
	ids := []int{0, math.MinInt, 5, -5, math.MaxInt, 1, -1, 1 << 32, 1<<32 + 5, -1 << 32, math.MinInt + 1, math.MaxInt - 1, 4096, 64, 1 << 40}
	w := start(t, 3)
	for i, id := range ids {
		none(t, w, ids[i:]...)
		set(t, w, id, 1000)
		expect(t, w, some(3, i+1, 1000))
	}
	tick(t, w, 1000, ids...)
	for i, id := range ids {
		set(t, w, id, 5000-i)
	}
	for i, id := range ids {
		due(t, w, id, 5000-i)
		stop(t, w, id, true)
		stop(t, w, id, false)
		expectLen(t, w.Len(), len(ids)-i-1)
	}
	tick(t, w, 6000)
	for i, id := range ids {
		set(t, w, id, 7000+i)
	}
	for i, id := range ids {
		tick(t, w, 7000+i, id)
	}
}

// expectLen compares a number of timers.
func expectLen(t *testing.T, got, want int) {
	t.Helper()
	if got != want {
		t.Errorf("Len %d, not %d", got, want)
	}
}

// P13.1: MaxTimers timers may be set, and no other one. Which of the errors comes first.
func TestMostTimers(t *testing.T) {
	if api.MaxTimers != 4096 {
		t.Fatal(api.MaxTimers)
	}
	for name, at := range map[string]func(i int) int{
		"one tick":               func(i int) int { return 70000 },
		"the present tick":       func(i int) int { return 5000 },
		"a tick that has passed": func(i int) int { return 3 },
		"a tick each":            func(i int) int { return 3000 + i },
		"ticks far apart":        func(i int) int { return i << 28 },
	} {
		w := start(t, 5000)
		for i := range 4096 {
			expectLen(t, w.Len(), i)
			set(t, w, i, at(i))
		}
		full := stateOf(w)
		expectLen(t, full.n, 4096)
		for _, id := range []int{-1, 4096, math.MaxInt, math.MinInt} {
			for _, tick := range []int{0, 4999, 5000, 5001, 70000, api.MaxTick} {
				refuse(t, w, id, tick, api.ErrFull)
			}
			for _, tick := range outside() {
				refuse(t, w, id, tick, api.ErrRange)
				refuse(t, w, 7, tick, api.ErrRange)
			}
		}
		// One that is set already is replaced, and takes no room.
		for _, id := range []int{0, 1, 2048, 4095} {
			set(t, w, id, at(id))
			set(t, w, id, api.MaxTick)
			set(t, w, id, at(id))
			refuse(t, w, 4096, at(id), api.ErrFull)
		}
		expect(t, w, full)
		// One that is stopped makes room for one.
		stop(t, w, 4096, false)
		refuse(t, w, 4096, 6000, api.ErrFull)
		stop(t, w, 17, true)
		set(t, w, 4096, at(17))
		refuse(t, w, 17, 6000, api.ErrFull)
		expect(t, w, full)
		// So do those that are returned.
		set(t, w, 4096, 0)
		got, e := w.Tick(5000)
		if e != api.OK || len(got) == 0 || got[0] != 4096 && at(0) > 0 {
			t.Error(name, got, int(e))
		}
		for i := range got {
			set(t, w, 10000+i, 6000)
		}
		refuse(t, w, 9999, 6000, api.ErrFull)
		got, e = w.Tick(api.MaxTick)
		if e != api.OK || len(got) != 4096 || w.Len() != 0 {
			t.Error(name, len(got), int(e), w.Len())
		}
		set(t, w, 9999, 6000)
	}
}

// P13.1: one that is set again is due at its new tick alone.
func TestSetAgainIsDueAtItsNewTick(t *testing.T) {
	ticks := []int{0, 99, 100, 101, 127, 128, 200, 4095, 4096, 1 << 24, api.MaxTick}
	for _, first := range ticks {
		for _, second := range ticks {
			w := start(t, 100)
			set(t, w, 1, first)
			set(t, w, 1, second)
			expect(t, w, some(100, 1, second))
			for _, now := range ticks {
				switch {
				case now < 100:
				case now == max(second, 100):
					tick(t, w, now, 1)
				default:
					tick(t, w, now)
				}
			}
			expect(t, w, bare(api.MaxTick))
		}
	}
}

// P13.1: one that is set again comes behind those that were set between, whether for its tick or for another one first.
func TestSetAgainCountsAsSetNow(t *testing.T) {
	for _, at := range []int{0, 99, 100, 101, 128, 150, 1000, 5000, 1 << 30, api.MaxTick} {
		w := start(t, 100)
		for id := range 5 {
			set(t, w, id, at)
		}
		set(t, w, 0, at) // the first one
		set(t, w, 2, at) // one between
		set(t, w, 2, at) // the last one
		set(t, w, 3, 777)
		set(t, w, 3, at) // by way of another tick
		stop(t, w, 1, true)
		set(t, w, 1, at) // by way of none
		tick(t, w, max(at, 100), 4, 0, 2, 3, 1)
		expect(t, w, bare(max(at, 100)))
	}
}

// One that is refused does not count as set.
func TestRefusedDoesNotCountAsSet(t *testing.T) {
	w := start(t, 0)
	set(t, w, 1, 10)
	set(t, w, 2, 10)
	refuse(t, w, 1, -1, api.ErrRange)
	refuse(t, w, 1, api.MaxTick+1, api.ErrRange)
	tick(t, w, 10, 1, 2)
}

// Timers of one tick come in the order in which they were set also where the wheel is advanced between, whether that gives them another place on it or not.
func TestSetBetweenTicksKeepsTheOrder(t *testing.T) {
	const at = 5*4096 + 9*64 + 33
	w := start(t, 7)
	for id, now := range []int{8, 63, 64, 4095, 4096, 5 * 4096, 5*4096 + 1, 5*4096 + 8*64, 5*4096 + 9*64, 5*4096 + 9*64 + 1, at - 1} {
		set(t, w, id, at)
		set(t, w, 100+id, at)
		tick(t, w, now)
		expect(t, w, some(now, 2*id+2, at))
	}
	set(t, w, 3, at)
	set(t, w, 99, at)
	tick(t, w, at, 0, 100, 1, 101, 2, 102, 103, 4, 104, 5, 105, 6, 106, 7, 107, 8, 108, 9, 109, 10, 110, 3, 99)
}

// P13.1
func TestStop(t *testing.T) {
	for _, at := range []int{0, 99, 100, 101, 128, 4096, 1 << 33, api.MaxTick} {
		w := start(t, 100)
		stop(t, w, 1, false) // never set
		set(t, w, 1, at)
		stop(t, w, 2, false)
		due(t, w, 1, at)
		stop(t, w, 1, true) // set
		expect(t, w, bare(100))
		stop(t, w, 1, false) // stopped
		set(t, w, 1, at)
		tick(t, w, max(at, 100), 1)
		stop(t, w, 1, false) // returned
		set(t, w, 1, at)
		set(t, w, 1, at)
		stop(t, w, 1, true) // set twice
		stop(t, w, 1, false)
		tick(t, w, api.MaxTick)
	}
}

// P13.1: of several timers of one tick, or of one slot, that which is stopped is removed and no other one.
func TestStopRemovesOneOfMany(t *testing.T) {
	for _, apart := range []int{0, 1, 64, 4096} {
		for mask := range 1 << 5 {
			for _, down := range []bool{false, true} {
				w := start(t, 0)
				for id := range 5 {
					set(t, w, id, 1<<20+id*apart)
				}
				var left []int
				for id := range 5 {
					if mask>>id&1 == 0 {
						left = append(left, id)
					}
				}
				for i := range 5 {
					id := i
					if down {
						id = 4 - i
					}
					if mask>>id&1 == 1 {
						stop(t, w, id, true)
					}
				}
				if len(left) > 0 {
					expect(t, w, some(0, len(left), 1<<20+left[0]*apart))
				} else {
					expect(t, w, bare(0))
				}
				for _, id := range left {
					due(t, w, id, 1<<20+id*apart)
				}
				set(t, w, 7, 1<<20+5*apart)
				tick(t, w, 1<<20+5*apart, append(left, 7)...)
			}
		}
	}
}

// P13.1: Due after each kind of call.
func TestDueAfterEachKindOfCall(t *testing.T) {
	w := start(t, 50)
	none(t, w, 1, 50)
	set(t, w, 1, 60)
	set(t, w, 2, 6000)
	set(t, w, 3, 40)
	set(t, w, 4, 0)
	due(t, w, 1, 60)
	due(t, w, 2, 6000)
	due(t, w, 3, 40)
	due(t, w, 4, 0)
	set(t, w, 1, 70)
	refuse(t, w, 1, -1, api.ErrRange)
	due(t, w, 1, 70)
	w.Next()
	w.Now()
	w.Len()
	stay(t, w, 49)
	stop(t, w, 5, false)
	for id, at := range []int{70, 6000, 40, 0} {
		due(t, w, id+1, at)
	}
	tick(t, w, 50, 4, 3)
	due(t, w, 1, 70)
	due(t, w, 2, 6000)
	tick(t, w, 69)
	due(t, w, 1, 70)
	due(t, w, 2, 6000)
	tick(t, w, 5990, 1)
	due(t, w, 2, 6000)
	stop(t, w, 2, true)
	none(t, w, 1, 2, 3, 4, 5, 40, 60, 70, 6000)
}
