package cong_test

import (
	"math"
	"testing"

	"towrope/api"
	"towrope/cong"
)

// top is what no number exceeds, and most the greatest mss.
const (
	top  = 1 << 30
	most = 65535
)

// extremes are the least ints, the greatest ones, and some that are less far.
func extremes() []int {
	return []int{math.MinInt, math.MinInt + 1, -1<<32 - 1, -1 << 32, -1<<32 + 1, -top, -most, -2, -1, 0, 1, 2, 3, most - 1, most, most + 1, top - 1, top, top + 1, 1<<31 - 1, 1 << 31, 1<<31 + 1, 1<<32 - 1, 1 << 32, 1<<32 + 1, 1<<32 + top, math.MaxInt - 1, math.MaxInt}
}

// state is what an object tells.
type state struct {
	window, limit int
	fast          bool
	dups          int
}

func stateOf(c *cong.Cong) state {
	return state{c.Window(), c.Limit(), c.Fast(), c.Dups()}
}

// stands compares the state of an object.
func stands(t *testing.T, c *cong.Cong, want state) {
	t.Helper()
	if got := stateOf(c); got != want {
		t.Errorf("%+v, not %+v", got, want)
	}
}

// start returns a new object.
func start(t *testing.T, mss int) *cong.Cong {
	t.Helper()
	c, e := cong.New(mss)
	if c == nil || e != api.OK {
		t.Fatalf("New(%d): error %d", mss, int(e))
	}
	return c
}

// lost returns an object with this limit, behind Lost.
func lost(t *testing.T, mss, limit int) *cong.Cong {
	t.Helper()
	c := start(t, mss)
	c.Lost(2 * limit)
	stands(t, c, state{window: mss, limit: limit})
	return c
}

// grown returns an object with this limit and this window, which Lost and small steps of Ack lead to.
func grown(t *testing.T, mss, limit, window int) *cong.Cong {
	t.Helper()
	c := lost(t, mss, limit)
	for c.Window() < window {
		c.Ack(min(mss, window-c.Window()))
	}
	stands(t, c, state{window: window, limit: limit})
	return c
}

// dup calls Dup some times, and compares what it answers: true for the third alone.
func dup(t *testing.T, c *cong.Cong, flight, times int) {
	t.Helper()
	for range times {
		third := c.Dups() == 2
		if c.Dup(flight) != third {
			t.Errorf("Dup(%d) = %v: %+v", flight, !third, stateOf(c))
		}
	}
}

// P21.1, P21.2, P21.3: the chapter's example.
func TestExample(t *testing.T) {
	c := start(t, 1000)
	stands(t, c, state{window: 4000, limit: top})
	c.Ack(1000)
	stands(t, c, state{window: 5000, limit: top})
	for i, want := range []bool{false, false, true} {
		if got := c.Dup(5000); got != want {
			t.Errorf("call %d of Dup = %v", i+1, got)
		}
	}
	stands(t, c, state{5500, 2500, true, 3})
	c.Ack(3000)
	stands(t, c, state{window: 2500, limit: 2500})
}

// P21.1: the first window, next to each number where what bounds it changes.
func TestNew(t *testing.T) {
	for _, n := range [][2]int{
		{1, 4}, {2, 8}, {3, 12}, {536, 2144}, {1000, 4000}, {1094, 4376}, {1095, 4380}, {1096, 4380}, {1097, 4380}, {1460, 4380},
		{2189, 4380}, {2190, 4380}, {2191, 4382}, {2192, 4384}, {4380, 8760}, {9000, 18000}, {32768, 65536}, {65534, 131068}, {65535, 131070},
	} {
		stands(t, start(t, n[0]), state{window: n[1], limit: top})
	}
}

// P21.1: New of each mss that may be.
func TestNewOfAll(t *testing.T) {
	for mss := 1; mss <= most; mss++ {
		want := 4380
		if want > 4*mss {
			want = 4 * mss
		}
		if want < 2*mss {
			want = 2 * mss
		}
		if c, e := cong.New(mss); e != api.OK || stateOf(c) != (state{window: want, limit: top}) {
			t.Errorf("New(%d): error %d, %+v", mss, int(e), stateOf(c))
		}
	}
}

// P21.1: where New refuses.
func TestNewRefuses(t *testing.T) {
	for _, mss := range append(extremes(), -4380, -1095, -3, most+2, 70000, 131070, 1<<32+1000) {
		c, e := cong.New(mss)
		if mss >= 1 && mss <= most {
			if c == nil || e != api.OK {
				t.Errorf("New(%d): error %d", mss, int(e))
			}
			continue
		}
		if c != nil || e != api.ErrArg {
			t.Errorf("New(%d) = %v, error %d", mss, c, int(e))
		}
	}
}

// P21.1, P21.2, P21.3: a nil object answers 0 and false, and does nothing.
func TestNilObject(t *testing.T) {
	var c *cong.Cong
	stands(t, c, state{})
	for _, n := range extremes() {
		c.Ack(n)
		stands(t, c, state{})
		for range 5 {
			if c.Dup(n) {
				t.Errorf("Dup(%d) = true", n)
			}
			stands(t, c, state{})
		}
		c.Lost(n)
		stands(t, c, state{})
	}
}

// P21.1, P21.2, P21.3: no call of one object shows in another.
func TestObjectsDoNotAffectOneAnother(t *testing.T) {
	c, other, third := start(t, 1000), start(t, 1000), start(t, 500)
	c.Ack(700)
	stands(t, c, state{window: 4700, limit: top})
	stands(t, other, state{window: 4000, limit: top})
	stands(t, third, state{window: 2000, limit: top})
	dup(t, other, 9000, 2)
	third.Lost(6000)
	stands(t, c, state{window: 4700, limit: top})
	stands(t, other, state{4000, top, false, 2})
	stands(t, third, state{window: 500, limit: 3000})
	dup(t, c, 8000, 3)
	stands(t, c, state{7000, 4000, true, 3})
	stands(t, other, state{4000, top, false, 2})
	dup(t, other, 9000, 1)
	third.Ack(500)
	stands(t, c, state{7000, 4000, true, 3})
	stands(t, other, state{7500, 4500, true, 3})
	stands(t, third, state{window: 1000, limit: 3000})
	c.Ack(1)
	stands(t, c, state{window: 4000, limit: 4000})
	stands(t, other, state{7500, 4500, true, 3})
	stands(t, third, state{window: 1000, limit: 3000})
	stands(t, start(t, 1000), state{window: 4000, limit: top})
}
