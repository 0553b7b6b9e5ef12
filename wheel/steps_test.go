package wheel_test

import (
	"slices"
	"testing"

	"towrope/api"
	"towrope/wheel"
)

// passed is what a wheel returns, advanced to each of the ticks in turn.
func passed(t *testing.T, w *wheel.Wheel, ticks ...int) []int {
	t.Helper()
	var all []int
	for _, now := range ticks {
		l, e := w.Tick(now)
		if e != api.OK {
			t.Fatalf("Tick(%d): error %d", now, int(e))
		}
		all = append(all, l...)
	}
	return all
}

// with is a wheel with timers, their ids as their places among them.
func with(t *testing.T, now int, ticks []int) *wheel.Wheel {
	t.Helper()
	w := start(t, now)
	for id, at := range ticks {
		if e := w.Set(id, at); e != api.OK {
			t.Fatalf("Set(%d, %d): error %d", id, at, int(e))
		}
	}
	return w
}

// ordered are the places of ticks up to one, in the order of P13.2.
func ordered(ticks []int, until int) []int {
	var ids []int
	for id, at := range ticks {
		if at <= until {
			ids = append(ids, id)
		}
	}
	slices.SortStableFunc(ids, func(a, b int) int { return ticks[a] - ticks[b] })
	return ids
}

// P13.3: one step, each way of several steps, and one tick at a time.
func TestStepsDoNotMatter(t *testing.T) {
	for no := range 7 {
		edge := 1 << (6 * no)
		first := max(0, edge-70)
		last := min(edge+140, api.MaxTick)
		next := chance(uint64(no))
		var ticks []int
		for range 300 {
			ticks = append(ticks, first+next(last-first+30))
		}
		ticks = append(ticks, 0, first, first, last, last, last+1, api.MaxTick)
		want := ordered(ticks, last)
		if got := passed(t, with(t, first, ticks), last); !slices.Equal(got, want) {
			t.Fatalf("from %d to %d in one step: %v, not %v", first, last, got, want)
		}
		for size := 1; size <= last-first; size++ {
			var steps []int
			for now := first; now < last; now += size {
				steps = append(steps, now)
			}
			steps = append(steps, last)
			if got := passed(t, with(t, first, ticks), steps...); !slices.Equal(got, want) {
				t.Fatalf("from %d to %d by %d: %v, not %v", first, last, size, got, want)
			}
		}
		for round := range 100 {
			var steps []int
			for now := first; now < last; now += next(1 + round) {
				steps = append(steps, now)
				if round == 0 {
					now++
				}
			}
			steps = append(steps, last)
			if got := passed(t, with(t, first, ticks), steps...); !slices.Equal(got, want) {
				t.Fatalf("to the ticks %d: %v, not %v", steps, got, want)
			}
		}
	}
}

// P13.3: all sets of steps between few ticks that are far apart.
func TestAllSetsOfSteps(t *testing.T) {
	stops := []int{63, 64, 4095, 4160, 1 << 18, 1<<24 + 77, 1 << 30, 1<<36 - 1, 1 << 36, api.MaxTick - 1}
	var ticks []int
	for i, at := range stops {
		ticks = append(ticks, at, at+1, at-1, at, stops[(i*7+3)%len(stops)]-i)
	}
	ticks = append(ticks, 0, api.MaxTick, 5, 5, api.MaxTick)
	want := ordered(ticks, api.MaxTick)
	for mask := range 1 << len(stops) {
		var steps []int
		for i, at := range stops {
			if mask>>i&1 == 1 {
				steps = append(steps, at)
			}
		}
		steps = append(steps, api.MaxTick)
		if got := passed(t, with(t, 2, ticks), steps...); !slices.Equal(got, want) {
			t.Fatalf("to the ticks %d: %v, not %v", steps, got, want)
		}
	}
}

// P13.3: from tick 0 one tick at a time, over two digits that turn over.
func TestOneTickAtATime(t *testing.T) {
	next := chance(7)
	var ticks []int
	for range 4096 {
		ticks = append(ticks, next(10000))
	}
	one, many := with(t, 0, ticks), with(t, 0, ticks)
	want := passed(t, one, 9999)
	if !slices.Equal(want, ordered(ticks, 9999)) {
		t.Fatal("in one step:", want)
	}
	var got []int
	for now := range 10000 {
		l := passed(t, many, now)
		for _, id := range l {
			if ticks[id] != now {
				t.Fatalf("Tick(%d) returned %d, due at %d", now, id, ticks[id])
			}
		}
		got = append(got, l...)
	}
	if !slices.Equal(got, want) {
		t.Fatal("one tick at a time:", got, "not", want)
	}
}

// P13.3: timers that are set between, for ticks that have not passed, and stopped and set again, are returned alike.
func TestStepsDoNotMatterForTimersSetBetween(t *testing.T) {
	ticks := []int{5000, 4200, 4096, 4300, 4160, 5000, 4097, 4159, 9000}
	for size := 1; size < 200; size++ {
		w := start(t, 4000)
		v := start(t, 4000)
		var got, want []int
		for id, at := range ticks {
			for now := w.Now(); now < 4000+id*10; now += size {
				got = append(got, passed(t, w, now)...)
			}
			got = append(got, passed(t, w, 4000+id*10)...)
			want = append(want, passed(t, v, 4000+id*10)...)
			for _, x := range []*wheel.Wheel{w, v} {
				set(t, x, id, at)
				set(t, x, -id-1, at)
				set(t, x, id, at)
			}
		}
		stop(t, w, 3, true)
		stop(t, v, 3, true)
		for now := w.Now(); now < 9000; now += size {
			got = append(got, passed(t, w, now)...)
		}
		got = append(got, passed(t, w, 9000)...)
		want = append(want, passed(t, v, 9000)...)
		if !slices.Equal(got, want) || !slices.Equal(got, []int{-3, 2, -7, 6, -8, 7, -5, 4, -2, 1, -4, -1, 0, -6, 5, -9, 8}) {
			t.Fatalf("by %d: %v, and %v", size, got, want)
		}
	}
}

// P13.3 has an exception: a timer that is set between for a tick that has passed comes after those that were returned already.
func TestSetBetweenForATickThatHasPassed(t *testing.T) {
	w := start(t, 0)
	set(t, w, 1, 10)
	set(t, w, 2, 20)
	set(t, w, 3, 5)
	tick(t, w, 20, 3, 1, 2)
	v := start(t, 0)
	set(t, v, 1, 10)
	set(t, v, 2, 20)
	tick(t, v, 10, 1)
	set(t, v, 3, 5)
	tick(t, v, 20, 3, 2)
}
