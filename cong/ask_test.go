package cong_test

import (
	"testing"

	"towrope/cong"
)

// P21.3: Window, Limit, Fast and Dups ahead of any call and behind each kind of call; asking doesn't change them.
func TestStateBehindEachCall(t *testing.T) {
	steps := []struct {
		do   call
		want state
	}{
		{call{kind: acked, n: 0}, state{4000, top, false, 0}},
		{call{kind: again, n: 9000}, state{4000, top, false, 1}},
		{call{kind: acked, n: 400}, state{4400, top, false, 0}},
		{call{kind: again, n: 9000}, state{4400, top, false, 1}},
		{call{kind: again, n: 9000}, state{4400, top, false, 2}},
		{call{kind: acked, n: 0}, state{4400, top, false, 2}},
		{call{kind: again, n: 9001}, state{7500, 4500, true, 3}},
		{call{kind: acked, n: -3}, state{7500, 4500, true, 3}},
		{call{kind: again, n: 9000}, state{8500, 4500, true, 4}},
		{call{kind: acked, n: 5000}, state{4500, 4500, false, 0}},
		{call{kind: acked, n: 5000}, state{4722, 4500, false, 0}},
		{call{kind: again, n: 9000}, state{4722, 4500, false, 1}},
		{call{kind: gone, n: 4998}, state{1000, 2499, false, 0}},
		{call{kind: acked, n: 1400}, state{2000, 2499, false, 0}},
		{call{kind: acked, n: 499}, state{2499, 2499, false, 0}},
		{call{kind: acked, n: 499}, state{2899, 2499, false, 0}},
		{call{kind: gone, n: -1}, state{1000, 2000, false, 0}},
		{call{kind: acked, n: 999}, state{1999, 2000, false, 0}},
		{call{kind: acked, n: 999}, state{2998, 2000, false, 0}},
	}
	c := start(t, 1000)
	stands(t, c, state{window: 4000, limit: top})
	for i, step := range steps {
		step.do.of(c)
		for range 3 {
			if got := stateOf(c); got != step.want {
				t.Fatalf("step %d: %+v, not %+v", i, got, step.want)
			}
		}
	}
}

// P21.3: each question alone leaves all answers as they are, and an object that is asked often answers as one that is asked at the end alone.
func TestAskingChangesNothing(t *testing.T) {
	asks := []func(c *cong.Cong){
		func(c *cong.Cong) { c.Window() },
		func(c *cong.Cong) { c.Limit() },
		func(c *cong.Cong) { c.Fast() },
		func(c *cong.Cong) { c.Dups() },
	}
	for seed := range uint64(40) {
		next := chance(seed)
		asked, quiet := start(t, 1000), start(t, 1000)
		for range 100 {
			c := anyCall(next, 1000)
			if c.of(asked) != c.of(quiet) {
				t.Fatalf("%+v: it answers otherwise where it is asked often", c)
			}
			was := stateOf(asked)
			asks[next(len(asks))](asked)
			stands(t, asked, was)
		}
		stands(t, asked, stateOf(quiet))
	}
}

// P21.1, P21.2, P21.3: the same calls have the same answers.
func TestSameCallsSameAnswers(t *testing.T) {
	for seed := range uint64(20) {
		next := chance(seed)
		c, other := start(t, 300), start(t, 300)
		for range 200 {
			do := anyCall(next, 300)
			if do.of(c) != do.of(other) {
				t.Fatalf("%+v: two answers", do)
			}
			stands(t, other, stateOf(c))
		}
	}
}
