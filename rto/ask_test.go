package rto_test

import (
	"testing"

	"towrope/rto"
)

// P20.2: Now, Smooth and Backs ahead of any call and behind each kind of call.
func TestStateBehindEachCall(t *testing.T) {
	back := func(r *rto.Rto) { r.Back() }
	sample := func(n int) func(r *rto.Rto) { return func(r *rto.Rto) { r.Sample(n) } }
	steps := []struct {
		do   func(r *rto.Rto)
		want state
	}{
		{func(r *rto.Rto) {}, state{20, 0, 0, 0}},
		{back, state{40, 0, 0, 1}},
		{back, state{80, 0, 0, 2}},
		{sample(12), state{36, 12, 6, 0}}, // M = 96, V = 24
		{back, state{72, 12, 6, 1}},
		{back, state{90, 12, 6, 2}},
		{back, state{90, 12, 6, 3}},
		{sample(20), state{39, 13, 6, 0}}, // d = 8: M = 104, V = 24 - 6 + 8
		{sample(13), state{33, 13, 5, 0}}, // d = 0: V = 26 - 6
		{back, state{66, 13, 5, 1}},
		{sample(-7), state{39, 11, 7, 0}},    // d = -13: M = 91, V = 20 - 5 + 13
		{sample(1), state{41, 10, 7, 0}},     // d = -10: M = 81, V = 28 - 7 + 10
		{sample(500), state{90, 71, 128, 0}}, // d = 490: M = 571, V = 31 - 7 + 490
		{back, state{90, 71, 128, 1}},
	}
	r := start(t, 10, 90, 20)
	for i, step := range steps {
		step.do(r)
		for range 3 {
			if got := stateOf(r); got != step.want {
				t.Fatalf("step %d: %+v, not %+v", i, got, step.want)
			}
		}
	}
}

// P20.2: asking changes nothing: an object that is asked often answers as one that is asked at the end alone.
func TestAskingChangesNothing(t *testing.T) {
	for seed := range uint64(20) {
		next := chance(seed)
		asked, quiet := start(t, 3, 2000, 9), start(t, 3, 2000, 9)
		for range 50 {
			c := anyCall(next, 300)
			c.of(asked)
			c.of(quiet)
			for range next(4) {
				was := stateOf(asked)
				stands(t, asked, was)
			}
		}
		stands(t, asked, stateOf(quiet))
	}
}

// P20.2: the same calls have the same answers.
func TestSameCallsSameAnswers(t *testing.T) {
	for seed := range uint64(20) {
		next := chance(seed)
		r, other := start(t, 1, 5000, 9), start(t, 1, 5000, 9)
		for range 200 {
			c := anyCall(next, 2000)
			c.of(r)
			c.of(other)
			stands(t, other, stateOf(r))
		}
	}
}
