package cong_test

import (
	"math"
	"testing"
)

// flights are what may be in flight, and the limit that an object with the mss 1000 has of it.
func flights() [][2]int {
	return [][2]int{
		{math.MinInt, 2000}, {math.MinInt + 1, 2000}, {-1 << 32, 2000}, {-top, 2000}, {-8000, 2000}, {-4001, 2000}, {-4000, 2000}, {-2, 2000}, {-1, 2000},
		{0, 2000}, {1, 2000}, {1000, 2000}, {2000, 2000}, {3000, 2000}, {3998, 2000}, {3999, 2000}, {4000, 2000}, {4001, 2000}, {4002, 2001}, {4003, 2001}, {4004, 2002},
		{5000, 2500}, {99999, 49999}, {top - 1, top/2 - 1}, {top, top / 2}, {top + 1, top / 2}, {top + 2, top/2 + 1},
		{2*top - 8000, top - 4000}, {2*top - 6001, top - 3001}, {2*top - 6000, top - 3000}, {2*top - 5999, top - 3000}, {2*top - 5998, top - 2999},
		{2*top - 3, top - 2}, {2*top - 2, top - 1}, {2*top - 1, top - 1}, {2 * top, top}, {2*top + 1, top}, {2*top + 2, top}, {1<<32 - 1, top}, {1 << 32, top}, {1<<32 + 4000, top}, {1 << 33, top}, {math.MaxInt - 1, top}, {math.MaxInt, top},
	}
}

// P21.2: the first, the second, the third, the fourth and many more.
func TestDup(t *testing.T) {
	c := start(t, 1000)
	steps := []struct {
		fresh bool
		want  state
	}{
		{false, state{4000, top, false, 1}},
		{false, state{4000, top, false, 2}},
		{true, state{6500, 3500, true, 3}},
		{false, state{7500, 3500, true, 4}},
		{false, state{8500, 3500, true, 5}},
	}
	for i, step := range steps {
		if got := c.Dup(7000); got != step.fresh {
			t.Errorf("call %d of Dup = %v", i+1, got)
		}
		stands(t, c, step.want)
	}
	for i := range 10000 {
		if c.Dup(7000) {
			t.Errorf("call %d of Dup = true", i+6)
		}
		if got, want := stateOf(c), (state{9500 + 1000*i, 3500, true, i + 6}); got != want {
			t.Fatalf("%+v, not %+v", got, want)
		}
	}
}

// P21.2: the flight of the third one counts.
func TestFlightOfTheThird(t *testing.T) {
	for _, n := range flights() {
		c := start(t, 1000)
		dup(t, c, n[0], 3)
		stands(t, c, state{min(n[1]+3000, top), n[1], true, 3})
	}
}

// P21.2: no other flight than that of the third one counts.
func TestFlightsOfTheOthers(t *testing.T) {
	for _, n := range extremes() {
		c := start(t, 1000)
		dup(t, c, n, 1)
		stands(t, c, state{4000, top, false, 1})
		dup(t, c, n, 1)
		stands(t, c, state{4000, top, false, 2})
		dup(t, c, 9000, 1)
		stands(t, c, state{7500, 4500, true, 3})
		dup(t, c, n, 1)
		stands(t, c, state{8500, 4500, true, 4})
		dup(t, c, n, 3)
		stands(t, c, state{11500, 4500, true, 7})
	}
}

// P21.2: the limit is at least 2 * mss, for objects of several mss: a flight of 4 * mss, one less and one more, and two more.
func TestLeastLimitOfDup(t *testing.T) {
	for _, mss := range []int{1, 2, 3, 88, 536, 1095, 1460, 2191, most - 1, most} {
		for _, n := range [][2]int{{0, 0}, {1, 0}, {-4 * mss, 0}, {4*mss - 2, 0}, {4*mss - 1, 0}, {4 * mss, 0}, {4*mss + 1, 0}, {4*mss + 2, 1}, {4*mss + 3, 1}, {4*mss + 4, 2}} {
			c := start(t, mss)
			dup(t, c, n[0], 3)
			limit := 2*mss + n[1]
			stands(t, c, state{limit + 3*mss, limit, true, 3})
			dup(t, c, 0, 1)
			stands(t, c, state{limit + 4*mss, limit, true, 4})
		}
	}
}

// P21.2: the third one counts from the last Ack on that acknowledges something.
func TestThirdBehindAck(t *testing.T) {
	for before := range 3 {
		c := start(t, 1000)
		dup(t, c, 50000, before)
		c.Ack(100)
		dup(t, c, 50000, 2)
		stands(t, c, state{4100, top, false, 2})
		dup(t, c, 9000, 1)
		stands(t, c, state{7500, 4500, true, 3})
	}
	c := start(t, 1000)
	dup(t, c, 9000, 1)
	c.Ack(0)
	dup(t, c, 9000, 1)
	c.Ack(-1)
	dup(t, c, 9000, 1)
	stands(t, c, state{7500, 4500, true, 3})
}

// P21.2: the third one counts from the last Lost on.
func TestThirdBehindLost(t *testing.T) {
	for before := range 6 {
		c := start(t, 1000)
		dup(t, c, 50000, before)
		c.Lost(12000)
		stands(t, c, state{window: 1000, limit: 6000})
		dup(t, c, 50000, 2)
		stands(t, c, state{1000, 6000, false, 2})
		dup(t, c, 9000, 1)
		stands(t, c, state{7500, 4500, true, 3})
	}
}

// P21.2: fast recovery begins anew behind one that ended, and cuts the limit anew.
func TestFastRecoveryAgain(t *testing.T) {
	c := start(t, 1000)
	for flight := 40000; flight > 4000; flight /= 2 {
		dup(t, c, flight, 3)
		stands(t, c, state{flight/2 + 3000, flight / 2, true, 3})
		dup(t, c, 1<<20, 2)
		stands(t, c, state{flight/2 + 5000, flight / 2, true, 5})
		c.Ack(flight)
		stands(t, c, state{window: flight / 2, limit: flight / 2})
		dup(t, c, 1<<20, 2)
		stands(t, c, state{flight / 2, flight / 2, false, 2})
		c.Ack(1)
	}
}

// P21.2: a window above the limit becomes what the third one makes of it, whether that is more or less.
func TestThirdAboveTheLimit(t *testing.T) {
	for _, flight := range []int{0, 8000, 30000} {
		c := grown(t, 1000, 4000, 3999)
		c.Ack(1000)
		stands(t, c, state{window: 4999, limit: 4000})
		dup(t, c, flight, 3)
		limit := max(flight/2, 2000)
		stands(t, c, state{limit + 3000, limit, true, 3})
	}
}
