package wheel

import (
	"testing"

	"towrope/api"
)

// told tells in another way where the timers of a tick are: the number of the last digit in which it differs from now, and its digit there.
func told(now, at int) (no, slot int) {
	slot = at % 64
	for i := range 7 {
		if now%64 != at%64 {
			no, slot = i, at%64
		}
		now, at = now/64, at/64
	}
	return no, slot
}

// places goes through all slots: the timers in them are those of the map, each at its place, and the bits tell which slots have some.
func places(t *testing.T, w *Wheel) {
	t.Helper()
	n := 0
	for no := range w.slots {
		for at, s := range w.slots[no] {
			if used := w.used[no]>>at&1 == 1; used != (s.first != nil) {
				t.Fatalf("now %d: wheel %d, slot %d: used %v", w.now, no, at, used)
			}
			var ahead *timer
			for x := s.first; x != nil; x = x.behind {
				if wheel, slot := told(w.now, x.at); no != wheel || at != slot {
					t.Fatalf("now %d: a timer for %d in wheel %d, slot %d", w.now, x.at, no, at)
				}
				if x.ahead != ahead || w.timers[x.id] != x {
					t.Fatalf("now %d: wheel %d, slot %d: timer %d is lost", w.now, no, at, x.id)
				}
				ahead = x
				n++
			}
			if s.last != ahead {
				t.Fatalf("now %d: wheel %d, slot %d ends too early", w.now, no, at)
			}
		}
	}
	if n != len(w.timers) {
		t.Fatalf("now %d: %d timers in the slots, of %d", w.now, n, len(w.timers))
	}
}

// The chapter's Ways: timers are where it says after each kind of call, and so are found without going through others.
func TestTimersAreAtTheirPlaces(t *testing.T) {
	seed := uint64(1)
	next := func(n int) int {
		seed = seed*6364136223846793005 + 1442695040888963407
		return int(seed>>33) % n
	}
	for range 20 {
		w, _ := New(next(1 << next(30)))
		for range 300 {
			now := w.now
			at := now/2 + next(1<<(1+next(30)))<<next(11)
			switch next(8) {
			case 0:
				w.Stop(next(30))
			case 1:
				w.Tick(now + next(200))
			case 2:
				w.Tick(now + next(1<<next(24)))
			default:
				w.Set(next(30), min(at, api.MaxTick))
			}
			places(t, w)
		}
	}
}

// A step that meets none of the timers touches none: otherwise each step of a world would go through all of them.
func TestTimersFarAheadAreNotTouched(t *testing.T) {
	w, _ := New(0)
	for id := range api.MaxTimers {
		w.Set(id, 1<<20+id)
	}
	now := 0
	step := func() {
		now++
		w.Tick(now)
	}
	if n := testing.AllocsPerRun(1000, step); n != 0 {
		t.Errorf("%v allocations for each step", n)
	}
}
