package cong_test

import (
	"math"
	"testing"
)

// P21.4: the window is at least 1, and no Ack but one that ends fast recovery makes it grow by more than mss, in long runs of all calls.
func TestTheWindowGrowsByMssAtMost(t *testing.T) {
	for _, mss := range []int{1, 2, 3, 100, 1095, 1096, 1460, 2191, most} {
		for seed := range uint64(8) {
			next := chance(seed)
			c := start(t, mss)
			for range 5000 {
				do := anyCall(next, mss)
				was := stateOf(c)
				do.of(c)
				got := stateOf(c)
				if got.window < 1 {
					t.Fatalf("mss %d, %+v: %+v", mss, do, got)
				}
				if by := got.window - was.window; do.kind == acked && !was.fast && (by < 0 || by > mss) {
					t.Fatalf("mss %d, %+v: %+v behind %+v", mss, do, got, was)
				}
			}
		}
	}
}

// climbs counts the acknowledged bytes from Lost on, up to mss for each call: the window is as much more than mss, until it reaches the limit.
func climbs(t *testing.T, mss, flight int, step func(i int) int) {
	t.Helper()
	c := start(t, mss)
	c.Ack(17)
	dup(t, c, flight, 4)
	c.Lost(flight)
	limit := c.Limit()
	want := mss
	for i := 0; want < limit; i++ {
		n := step(i)
		c.Ack(n)
		want += max(min(n, mss), 0)
		if got := stateOf(c); got != (state{window: want, limit: limit}) {
			t.Fatalf("mss %d, flight %d: call %d, Ack(%d): %+v, not %d", mss, flight, i, n, got, want)
		}
	}
	if want >= limit+mss {
		t.Fatalf("mss %d, flight %d: %d is far beyond %d", mss, flight, want, limit)
	}
	c.Ack(math.MaxInt)
	stands(t, c, state{window: want + max(mss*mss/want, 1), limit: limit})
}

// P21.4: the growth behind Lost, for small and great numbers of acknowledged bytes, equal ones and others.
func TestGrowthBehindLost(t *testing.T) {
	for _, mss := range []int{1, 2, 3, 10, 536, 1000, 1460, most} {
		for _, flight := range []int{0, 1, 4 * mss, 4*mss + 2, 9 * mss, 20*mss + 5, 51*mss + 1} {
			for _, n := range []int{mss/7 + 1, mss/2 + 1, max(mss-1, 1), mss, mss + 1, 2 * mss, 1000 * mss, top, math.MaxInt} {
				climbs(t, mss, flight, func(int) int { return n })
			}
			next := chance(uint64(mss))
			climbs(t, mss, flight, func(int) int { return next(2*mss+3) - 1 })
			climbs(t, mss, flight, func(i int) int { return []int{1, mss, 0, math.MinInt, math.MaxInt, mss + 1, -mss}[i%7] })
		}
	}
}

// P21.4: the growth behind Lost, byte by byte.
func TestGrowthBehindLostByteByByte(t *testing.T) {
	for _, mss := range []int{1, 2, 3, 10, 1000} {
		for _, flight := range []int{0, 4*mss + 2, 9 * mss} {
			climbs(t, mss, flight, func(int) int { return 1 })
		}
	}
}

// P21.4: the growth behind Lost with one and two duplicate acknowledgments between.
func TestGrowthBehindLostWithDups(t *testing.T) {
	c := lost(t, 1000, 20000)
	want := 1000
	for i := 0; want < 20000; i++ {
		dup(t, c, 90000, i%3)
		stands(t, c, state{want, 20000, false, i % 3})
		c.Ack(700 + i%2*900)
		want += 700 + i%2*300
		stands(t, c, state{window: want, limit: 20000})
	}
}

// P21.4: the growth behind Lost up to the greatest limit.
func TestGrowthBehindLostToTheGreatestLimit(t *testing.T) {
	c := start(t, most)
	c.Lost(math.MaxInt)
	for want := most; want < top; {
		stands(t, c, state{window: want, limit: top})
		c.Ack(math.MaxInt)
		want = min(want+most, top)
	}
	stands(t, c, state{window: top, limit: top})
}
