package wheel_test

import (
	"math"
	"slices"
	"testing"

	"towrope/api"
	"towrope/wheel"
)

// start is a new wheel.
func start(t *testing.T, now int) *wheel.Wheel {
	t.Helper()
	w, e := wheel.New(now)
	if w == nil || e != api.OK {
		t.Fatalf("New(%d): no wheel, error %d", now, int(e))
	}
	return w
}

// state is what can be asked of a wheel without a timer's id.
type state struct {
	now, n, next int
	ok           bool
}

func stateOf(w *wheel.Wheel) state {
	at, ok := w.Next()
	return state{w.Now(), w.Len(), at, ok}
}

// bare is the state of a wheel without timers.
func bare(now int) state { return state{now: now} }

// some is the state of a wheel with timers.
func some(now, n, next int) state { return state{now, n, next, true} }

// expect compares the state.
func expect(t *testing.T, w *wheel.Wheel, want state) {
	t.Helper()
	if got := stateOf(w); got != want {
		t.Errorf("state %v, not %v", got, want)
	}
}

// set sets a timer, which is due at its tick then.
func set(t *testing.T, w *wheel.Wheel, id, at int) {
	t.Helper()
	if e := w.Set(id, at); e != api.OK {
		t.Errorf("Set(%d, %d): error %d", id, at, int(e))
	}
	due(t, w, id, at)
}

// refuse sets a timer that may not be: nothing that can be asked changes.
func refuse(t *testing.T, w *wheel.Wheel, id, at int, want api.Errno) {
	t.Helper()
	was := stateOf(w)
	tick, ok := w.Due(id)
	if e := w.Set(id, at); e != want {
		t.Errorf("Set(%d, %d): error %d, not %d", id, at, int(e), int(want))
	}
	if now, still := w.Due(id); now != tick || still != ok {
		t.Errorf("after Set(%d, %d) with an error: Due %d %v, not %d %v", id, at, now, still, tick, ok)
	}
	expect(t, w, was)
}

// due asks for a timer that there is.
func due(t *testing.T, w *wheel.Wheel, id, want int) {
	t.Helper()
	if at, ok := w.Due(id); at != want || !ok {
		t.Errorf("Due(%d) = %d %v, not %d", id, at, ok, want)
	}
}

// none asks for timers that there are not.
func none(t *testing.T, w *wheel.Wheel, ids ...int) {
	t.Helper()
	for _, id := range ids {
		if at, ok := w.Due(id); at != 0 || ok {
			t.Errorf("Due(%d) = %d %v, and there is none", id, at, ok)
		}
	}
}

// stop stops a timer, or one that there is not: afterwards there is none.
func stop(t *testing.T, w *wheel.Wheel, id int, want bool) {
	t.Helper()
	if got := w.Stop(id); got != want {
		t.Errorf("Stop(%d) = %v", id, got)
	}
	none(t, w, id)
}

// tick advances the wheel, and compares the timers that it returns: afterwards they are gone.
func tick(t *testing.T, w *wheel.Wheel, now int, want ...int) {
	t.Helper()
	got, e := w.Tick(now)
	if e != api.OK || !slices.Equal(got, want) {
		t.Errorf("Tick(%d) = %v, error %d, not %v", now, got, int(e), want)
	}
	if w.Now() != now {
		t.Errorf("after Tick(%d): Now %d", now, w.Now())
	}
	none(t, w, want...)
}

// stay advances the wheel to a tick to which it may not go: nothing that can be asked changes.
func stay(t *testing.T, w *wheel.Wheel, now int) {
	t.Helper()
	was := stateOf(w)
	if got, e := w.Tick(now); len(got) != 0 || e != api.ErrRange {
		t.Errorf("Tick(%d) = %v, error %d", now, got, int(e))
	}
	expect(t, w, was)
}

// outside are numbers that are no ticks.
func outside() []int {
	return []int{math.MinInt, -1 << 42, -1 << 40, -1<<40 - 1, -65, -64, -1, 1<<40 + 1, 1<<40 + 64, 1 << 41, 1 << 42, 1 << 46, math.MaxInt}
}

func TestExampleOfTheChapter(t *testing.T) {
	w := start(t, 0)
	set(t, w, 1, 70)
	set(t, w, 2, 5)
	set(t, w, 3, 5)
	expect(t, w, some(0, 3, 5))
	tick(t, w, 69, 2, 3)
	expect(t, w, some(69, 1, 70))
	tick(t, w, 70, 1)
	expect(t, w, bare(70))
}

// P13.1
func TestNewHasItsBounds(t *testing.T) {
	for _, now := range []int{0, 1, 63, 64, 1 << 39, api.MaxTick - 1, api.MaxTick} {
		w := start(t, now)
		expect(t, w, bare(now))
		none(t, w, math.MinInt, -1, 0, 1, now, math.MaxInt)
		stop(t, w, 0, false)
		tick(t, w, now)
		expect(t, w, bare(now))
		tick(t, w, api.MaxTick)
		expect(t, w, bare(api.MaxTick))
	}
	for _, now := range outside() {
		if w, e := wheel.New(now); w != nil || e != api.ErrRange {
			t.Errorf("New(%d): error %d", now, int(e))
		}
	}
}

// New is a pure function: what happens to one wheel does not show at another.
func TestWheelsDoNotAffectOneAnother(t *testing.T) {
	w, v := start(t, 10), start(t, 10)
	set(t, w, 1, 20)
	set(t, w, 2, 5000)
	expect(t, v, bare(10))
	none(t, v, 1, 2)
	set(t, v, 1, 30)
	due(t, w, 1, 20)
	tick(t, w, 25, 1)
	expect(t, v, some(10, 1, 30))
	stop(t, v, 2, false)
	stop(t, v, 1, true)
	expect(t, w, some(25, 1, 5000))
	set(t, v, 2, 11)
	tick(t, v, 4999, 2)
	expect(t, w, some(25, 1, 5000))
	tick(t, w, 5000, 2)
	expect(t, start(t, 10), bare(10))
}

func TestNilWheel(t *testing.T) {
	var w *wheel.Wheel
	numbers := append(outside(), 0, 1, 64, api.MaxTick)
	for _, n := range numbers {
		for _, id := range numbers {
			if e := w.Set(id, n); e != api.ErrNil {
				t.Errorf("Set(%d, %d): error %d", id, n, int(e))
			}
		}
		if got, e := w.Tick(n); len(got) != 0 || e != api.ErrNil {
			t.Errorf("Tick(%d) = %v, error %d", n, got, int(e))
		}
		stop(t, w, n, false)
	}
	expect(t, w, state{})
}

// P13.2: Next, Now and Len after each kind of call.
func TestStateAfterEachKindOfCall(t *testing.T) {
	w := start(t, 100)
	expect(t, w, bare(100))
	set(t, w, 1, 5000)
	expect(t, w, some(100, 1, 5000))
	set(t, w, 2, 200)
	expect(t, w, some(100, 2, 200))
	set(t, w, 3, 300)
	expect(t, w, some(100, 3, 200))
	set(t, w, 4, 200)
	expect(t, w, some(100, 4, 200))
	set(t, w, 2, 6000) // again, for another tick
	expect(t, w, some(100, 4, 200))
	set(t, w, 4, 6000)
	expect(t, w, some(100, 4, 300))
	set(t, w, 4, 6000) // and for the same one
	expect(t, w, some(100, 4, 300))
	refuse(t, w, 5, -1, api.ErrRange)
	stop(t, w, 5, false)
	expect(t, w, some(100, 4, 300))
	stop(t, w, 3, true)
	expect(t, w, some(100, 3, 5000))
	stop(t, w, 3, false)
	expect(t, w, some(100, 3, 5000))
	tick(t, w, 4999)
	expect(t, w, some(4999, 3, 5000))
	stay(t, w, 4998)
	tick(t, w, 5000, 1)
	expect(t, w, some(5000, 2, 6000))
	set(t, w, 6, 4000) // for a tick that has passed
	expect(t, w, some(5000, 3, 4000))
	set(t, w, 7, 5000) // and for the present one
	expect(t, w, some(5000, 4, 4000))
	set(t, w, 8, 0)
	expect(t, w, some(5000, 5, 0))
	stop(t, w, 8, true)
	expect(t, w, some(5000, 4, 4000))
	stop(t, w, 6, true)
	expect(t, w, some(5000, 3, 5000))
	tick(t, w, 5000, 7)
	expect(t, w, some(5000, 2, 6000))
	tick(t, w, 6000, 2, 4)
	expect(t, w, bare(6000))
	tick(t, w, 6000)
	expect(t, w, bare(6000))
}
