package rto_test

import "testing"

// P20.3: the timeout is in least..most, behind New and behind each call of long runs.
func TestTheTimeoutIsInItsBounds(t *testing.T) {
	for _, n := range [][3]int{{1, 1, 1}, {1, 2, 1}, {5, 50, 20}, {49, 50, 50}, {100, 1000, 100}, {1, top, 3}, {top, top, top}, {slow, 4 * slow, 2 * slow}} {
		for seed := range uint64(10) {
			next := chance(seed)
			r := start(t, n[0], n[1], n[2])
			for range 3000 {
				c := anyCall(next, []int{3, 40, 2000, slow + 2}[seed%4])
				c.of(r)
				if now := r.Now(); now < n[0] || now > n[1] {
					t.Fatalf("%d..%d, %+v: the timeout is %d", n[0], n[1], c, now)
				}
			}
		}
	}
}

// settles measures the same time often enough: the mean is that then, and times are less than 4 off it, and both stay so.
func settles(t *testing.T, least, most, ticks int, behind []int) {
	t.Helper()
	r := start(t, least, most, least)
	for _, n := range behind {
		r.Sample(n)
	}
	for range 300 {
		r.Sample(ticks)
	}
	for range 20 {
		mean, off := r.Smooth()
		if mean != ticks || off >= 4 || off < 0 {
			t.Fatalf("%d measured often behind %v: %+v", ticks, behind, stateOf(r))
		}
		if now := r.Now(); now < min(max(ticks+1, least), most) || now > min(max(ticks+3, least), most) {
			t.Fatalf("%d measured often behind %v: the timeout is %d", ticks, behind, now)
		}
		r.Sample(ticks)
	}
}

// P20.3: equal measurements of many sizes: M/8 is they from the first one on, and V/4 comes to less than 4.
func TestEqualMeasurementsSettle(t *testing.T) {
	for _, ticks := range sizes() {
		settles(t, 1, top, ticks, nil)
		settles(t, 100, 5000, ticks, nil)
		r := start(t, 1, top, 1)
		for range 100 {
			r.Sample(ticks)
			if mean, _ := r.Smooth(); mean != ticks {
				t.Fatalf("%d measured alone: %+v", ticks, stateOf(r))
			}
		}
	}
}

// P20.3: equal measurements settle behind others too, greater ones and less.
func TestEqualMeasurementsSettleBehindOthers(t *testing.T) {
	for _, ticks := range sizes() {
		for _, other := range sizes() {
			settles(t, 1, top, ticks, []int{other})
			settles(t, 1, top, ticks, []int{0, slow, other, other + 1})
		}
	}
}

// P20.3: V never grows while equal measurements settle it.
func TestOffFallsWhileMeasurementsAreEqual(t *testing.T) {
	for _, ticks := range sizes() {
		r := start(t, 1, top, 1)
		r.Sample(ticks)
		_, was := r.Smooth()
		for range 100 {
			r.Sample(ticks)
			_, off := r.Smooth()
			if off > was {
				t.Fatalf("%d measured often: %d off behind %d", ticks, off, was)
			}
			was = off
		}
		if was != 0 {
			t.Errorf("%d measured often: %d off at last", ticks, was)
		}
	}
}

// sizes are measurements of many sizes.
func sizes() []int {
	l := []int{0, 1, 2, 3, 4, 5, 6, 7, 8, 9, 15, 16, 17, 100, 1000, 12345, 65535, 65536, 500000}
	return append(l, slow-1, slow)
}
