package cong_test

import (
	"math"
	"testing"
)

// P21.1: no number becomes greater than 2^30: a window that grows below the limit of a new object.
func TestGreatestWindowBelowTheLimit(t *testing.T) {
	for _, mss := range []int{most, most - 1, 32768, 9999} {
		c := start(t, mss)
		want := 2 * mss
		for want < top {
			c.Ack(math.MaxInt)
			want = min(want+mss, top)
			if c.Window() != want {
				t.Fatalf("mss %d: %+v, not %d", mss, stateOf(c), want)
			}
		}
		for _, n := range []int{1, mss, math.MaxInt} {
			c.Ack(n)
			stands(t, c, state{window: top, limit: top})
		}
	}
}

// near returns what leads to a window that is the limit and not far from 2^30.
func near(limit int) []call {
	return []call{{again, 2 * limit}, {again, 2 * limit}, {again, 2 * limit}, {acked, 1}}
}

// P21.1: a window that grows at the limit or above it.
func TestGreatestWindowAboveTheLimit(t *testing.T) {
	for _, n := range [][3]int{ // mss, the limit, what the window grows by
		{1, top - 3, 1}, {1000, top - 3, 1}, {32767, top - 3, 1}, {32768, top - 3, 1}, {46341, top - 3, 2}, {most, top - 10, 3}, {most, top - 9, 3}, {most, top - 8, 3}, {most, top - 1, 3}, {most, top - 2, 3}, {most, top, 3}, {1, top, 1},
	} {
		c := start(t, n[0])
		for _, do := range near(n[1]) {
			do.of(c)
		}
		want := n[1]
		stands(t, c, state{window: want, limit: n[1]})
		for range 20 {
			c.Ack(math.MaxInt)
			want = min(want+n[2], top)
			stands(t, c, state{window: want, limit: n[1]})
		}
	}
}

// P21.1: one below a limit of 2^30 and near it, the window grows by no more than it may.
func TestGreatestWindowNextToTheLimit(t *testing.T) {
	c := start(t, most)
	for c.Window() < top-most {
		c.Ack(most)
	}
	for c.Window() < top-5 {
		c.Ack(top - 5 - c.Window())
	}
	stands(t, c, state{window: top - 5, limit: top})
	c.Ack(4)
	stands(t, c, state{window: top - 1, limit: top})
	c.Ack(2)
	stands(t, c, state{window: top, limit: top})
}

// P21.2: a window that Dup makes, and one that grows in fast recovery.
func TestGreatestWindowInFastRecovery(t *testing.T) {
	for _, mss := range []int{1, 1000, most} {
		for _, limit := range []int{top - 3*mss - 2*mss - 1, top - 3*mss - 1, top - 3*mss, top - 3*mss + 1, top - 1, top} {
			c := start(t, mss)
			dup(t, c, 2*limit, 3)
			want := min(limit+3*mss, top)
			stands(t, c, state{want, limit, true, 3})
			for i := range 20 {
				dup(t, c, 0, 1)
				want = min(want+mss, top)
				stands(t, c, state{want, limit, true, i + 4})
			}
			c.Ack(1)
			stands(t, c, state{window: limit, limit: limit})
		}
	}
}

// P21.2: fast recovery with as many duplicate acknowledgments as lead from the least window to the greatest.
func TestManyDups(t *testing.T) {
	for _, mss := range []int{5000, most} {
		c := start(t, mss)
		dup(t, c, 0, 3)
		want := 5 * mss
		for i := range 2*top/mss - top/mss/2 {
			c.Dup(0)
			want = min(want+mss, top)
			if c.Window() != want || c.Dups() != i+4 {
				t.Fatalf("mss %d: %+v", mss, stateOf(c))
			}
		}
		dups := c.Dups()
		stands(t, c, state{top, 2 * mss, true, dups})
		c.Ack(1)
		stands(t, c, state{window: 2 * mss, limit: 2 * mss})
	}
}

// P21.2, P21.3: the number of duplicate acknowledgments too.
func TestGreatestNumberOfDups(t *testing.T) {
	c := start(t, 1)
	for range top - 1 {
		c.Dup(100)
	}
	stands(t, c, state{top, 50, true, top - 1})
	for range 3 {
		if c.Dup(100) {
			t.Error("Dup in fast recovery = true")
		}
		stands(t, c, state{top, 50, true, top})
	}
	c.Ack(1)
	stands(t, c, state{window: 50, limit: 50})
	dup(t, c, 100, 3)
	stands(t, c, state{53, 50, true, 3})
}

// P21.1, P21.2: long runs near the greatest numbers.
func TestRunsOfCallsNearTheGreatest(t *testing.T) {
	for seed := range uint64(60) {
		next := chance(seed)
		mss := []int{1, 1000, 40000, most}[seed%4]
		b := newBoth(t, mss)
		for range 60 {
			for _, c := range near(top - next(20*mss)) {
				b.do(c)
			}
			for range 40 {
				c := anyCall(next, mss)
				if c.kind != acked {
					c = call{again, 2*top - next(30*mss)}
				}
				b.do(c)
			}
		}
	}
}
