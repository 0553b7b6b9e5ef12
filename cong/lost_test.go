package cong_test

import "testing"

// P21.2: Lost of each flight, ahead of any call.
func TestLost(t *testing.T) {
	for _, n := range flights() {
		c := start(t, 1000)
		c.Lost(n[0])
		stands(t, c, state{window: 1000, limit: n[1]})
	}
}

// P21.2: the limit is at least 2 * mss, for objects of several mss: a flight of 4 * mss, one less and one more, and two more.
func TestLeastLimitOfLost(t *testing.T) {
	for _, mss := range []int{1, 2, 3, 88, 536, 1095, 1460, 2191, most - 1, most} {
		for _, n := range [][2]int{{0, 0}, {1, 0}, {-4 * mss, 0}, {4*mss - 2, 0}, {4*mss - 1, 0}, {4 * mss, 0}, {4*mss + 1, 0}, {4*mss + 2, 1}, {4*mss + 3, 1}, {4*mss + 4, 2}} {
			c := start(t, mss)
			c.Lost(n[0])
			stands(t, c, state{window: mss, limit: 2*mss + n[1]})
		}
	}
}

// P21.2: Lost with duplicate acknowledgments and in fast recovery: both end.
func TestLostBehindDups(t *testing.T) {
	for _, n := range flights() {
		for dups := range 7 {
			c := start(t, 1000)
			dup(t, c, 9000, dups)
			c.Lost(n[0])
			stands(t, c, state{window: 1000, limit: n[1]})
			c.Ack(1000)
			stands(t, c, state{window: 2000, limit: n[1]})
		}
	}
}

// P21.2: Lost of a window below the limit, at it and above it, and Lost behind Lost.
func TestLostBehindAck(t *testing.T) {
	for _, n := range flights() {
		for _, window := range []int{1000, 3999, 4000} {
			c := grown(t, 1000, 4000, window)
			c.Lost(n[0])
			stands(t, c, state{window: 1000, limit: n[1]})
		}
		c := grown(t, 1000, 4000, 4000)
		for range 20 {
			c.Ack(1000)
		}
		c.Lost(n[0])
		stands(t, c, state{window: 1000, limit: n[1]})
		c.Lost(20000)
		stands(t, c, state{window: 1000, limit: 10000})
		c.Lost(n[0])
		c.Lost(n[0])
		stands(t, c, state{window: 1000, limit: n[1]})
	}
}

// P21.2: behind Lost an Ack doesn't make the window the limit, though fast recovery was active.
func TestLostEndsFastRecovery(t *testing.T) {
	c := start(t, 1000)
	dup(t, c, 9000, 4)
	stands(t, c, state{8500, 4500, true, 4})
	c.Lost(8000)
	stands(t, c, state{window: 1000, limit: 4000})
	c.Ack(300)
	stands(t, c, state{window: 1300, limit: 4000})
	dup(t, c, 9000, 1)
	stands(t, c, state{1300, 4000, false, 1})
}
