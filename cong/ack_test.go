package cong_test

import (
	"math"
	"testing"
)

// P21.1: below the limit the window grows by n, up to mss.
func TestAckBelowTheLimit(t *testing.T) {
	for _, n := range [][2]int{
		{1, 1}, {2, 2}, {500, 500}, {998, 998}, {999, 999}, {1000, 1000}, {1001, 1000}, {1002, 1000}, {2000, 1000}, {most, 1000},
		{top, 1000}, {1<<31 - 1, 1000}, {1 << 31, 1000}, {1 << 32, 1000}, {1<<32 + 1, 1000}, {math.MaxInt - 1, 1000}, {math.MaxInt, 1000},
	} {
		c := start(t, 1000)
		c.Ack(n[0])
		stands(t, c, state{window: 4000 + n[1], limit: top})
		c.Ack(n[0])
		stands(t, c, state{window: 4000 + 2*n[1], limit: top})
		c = lost(t, 1000, 70000)
		c.Ack(n[0])
		stands(t, c, state{window: 1000 + n[1], limit: 70000})
	}
}

// P21.1: Ack of less than 1 does nothing, below the limit, at it, above it, ahead of fast recovery and in it.
func TestAckOfNothing(t *testing.T) {
	for _, n := range extremes() {
		if n >= 1 {
			continue
		}
		for dups := range 6 {
			c := start(t, 1000)
			dup(t, c, 9000, dups)
			was := stateOf(c)
			if was.dups != dups || was.fast != (dups >= 3) {
				t.Fatalf("behind %d calls of Dup: %+v", dups, was)
			}
			c.Ack(n)
			stands(t, c, was)
			dup(t, c, 9000, 1)
			if c.Dups() != dups+1 {
				t.Errorf("behind Ack(%d) and %d calls of Dup: %+v", n, dups+1, stateOf(c))
			}
		}
		for _, window := range []int{1000, 4999, 5000, 5001} {
			c := grown(t, 1000, 5000, 4999)
			c.Ack(window - 4999)
			dup(t, c, 9000, 2)
			was := stateOf(c)
			c.Ack(n)
			stands(t, c, was)
		}
	}
}

// P21.1: one below the limit the window grows fast; at it and above it, by mss * mss / window.
func TestAckNearTheLimit(t *testing.T) {
	for _, n := range [][3]int{ // the window ahead of it, n, the window behind it
		{3999, 1, 4000}, {3999, 999, 4998}, {3999, 1000, 4999}, {3999, 1001, 4999}, {3999, math.MaxInt, 4999},
		{4000, 1, 4250}, {4000, 999, 4250}, {4000, 1000, 4250}, {4000, 1001, 4250}, {4000, math.MaxInt, 4250},
	} {
		c := grown(t, 1000, 4000, n[0])
		c.Ack(n[1])
		stands(t, c, state{window: n[2], limit: 4000})
	}
	for _, n := range []int{1, 2, 249, 250, 251, 999, 1000, 1001, math.MaxInt} { // 1000000 / 4001 = 249.9
		c := grown(t, 1000, 4000, 3999)
		c.Ack(2)
		stands(t, c, state{window: 4001, limit: 4000})
		c.Ack(n)
		stands(t, c, state{window: 4250, limit: 4000})
		c.Ack(n) // 1000000 / 4250 = 235.2
		stands(t, c, state{window: 4485, limit: 4000})
	}
}

// P21.1: from one below the limit a window may grow beyond it by up to mss - 1.
func TestAckGoesBeyondTheLimit(t *testing.T) {
	for _, mss := range []int{1, 2, 3, 88, 1000, 1460, most} {
		for _, limit := range []int{2 * mss, 2*mss + 1, 3 * mss, 5*mss + 7} {
			c := grown(t, mss, limit, limit-1)
			c.Ack(mss)
			stands(t, c, state{window: limit - 1 + mss, limit: limit})
		}
	}
}

// P21.1: mss * mss / window is rounded down: windows where it is a whole number, and those next to them.
func TestAckRoundsDown(t *testing.T) {
	for _, n := range [][3]int{ // mss, the window ahead of it, what it grows by
		{10, 20, 5}, {10, 21, 4}, {10, 24, 4}, {10, 25, 4}, {10, 26, 3}, {10, 33, 3}, {10, 34, 2}, {10, 49, 2}, {10, 50, 2}, {10, 51, 1}, {10, 99, 1}, {10, 100, 1},
		{10, 101, 1}, {10, 102, 1}, {10, 150, 1}, {10, 199, 1}, {10, 200, 1}, {10, 201, 1}, {10, 1000, 1},
		{100, 200, 50}, {100, 201, 49}, {100, 204, 49}, {100, 205, 48}, {1, 2, 1}, {1, 3, 1}, {1, 1000, 1}, {2, 4, 1}, {2, 5, 1}, {3, 6, 1}, {3, 8, 1}, {3, 9, 1}, {4, 8, 2}, {4, 9, 1},
		{most, 2 * most, 32767}, {most, 2*most + 1, 32767}, {most, 2*most + 2, 32767}, {most, 2*most + 4, 32766}, {most, 3 * most, 21845}, {most, 3*most + 1, 21844},
	} {
		c := grown(t, n[0], n[1], n[1])
		c.Ack(1)
		stands(t, c, state{window: n[1] + n[2], limit: n[1]})
		c = grown(t, n[0], n[1], n[1])
		c.Ack(math.MaxInt)
		stands(t, c, state{window: n[1] + n[2], limit: n[1]})
	}
}

// P21.1: a window so great that mss * mss / window is less than 1: it grows by 1 then, whatever n is.
func TestAckGrowsByOneAtLeast(t *testing.T) {
	for _, mss := range []int{1, 2, 5, 100, 1000} {
		at := mss*mss + 1 // the least window of which it is so
		for _, window := range []int{at, at + 1, at + 2, 2 * at, 10 * at} {
			if window < 2*mss {
				continue
			}
			c := grown(t, mss, window, window)
			for i, n := range []int{1, 2, mss, mss + 1, math.MaxInt} {
				c.Ack(n)
				stands(t, c, state{window: window + i + 1, limit: window})
			}
		}
	}
}

// P21.1: the number of duplicate acknowledgments becomes 0, and the window grows all the same.
func TestAckBehindDups(t *testing.T) {
	for dups := range 3 {
		c := start(t, 1000)
		dup(t, c, 9000, dups)
		c.Ack(10)
		stands(t, c, state{window: 4010, limit: top})
		c = grown(t, 1000, 4000, 4000)
		dup(t, c, 9000, dups)
		c.Ack(10)
		stands(t, c, state{window: 4250, limit: 4000})
	}
}

// P21.1: in fast recovery Ack makes the window the limit, whatever n is, and ends it.
func TestAckEndsFastRecovery(t *testing.T) {
	for _, n := range []int{1, 2, 999, 1000, 1001, 4500, 4501, top, math.MaxInt} {
		for dups := 3; dups < 10; dups++ {
			c := start(t, 1000)
			dup(t, c, 9000, dups)
			stands(t, c, state{4500 + dups*1000, 4500, true, dups})
			c.Ack(n)
			stands(t, c, state{window: 4500, limit: 4500})
			c.Ack(n) // 1000000 / 4500 = 222.2
			stands(t, c, state{window: 4722, limit: 4500})
		}
	}
}

// P21.1: an Ack that ends fast recovery makes a window the limit though it was less than that ahead of fast recovery.
func TestAckEndsFastRecoveryOfALittleWindow(t *testing.T) {
	c := lost(t, 1000, 2000)
	stands(t, c, state{window: 1000, limit: 2000})
	dup(t, c, 50000, 3)
	stands(t, c, state{28000, 25000, true, 3})
	c.Ack(1)
	stands(t, c, state{window: 25000, limit: 25000})
}
