package rto_test

import (
	"math"
	"testing"

	"towrope/api"
	"towrope/rto"
)

// top is the greatest most, and slow the greatest measurement.
const (
	top  = 1 << 30
	slow = 1 << 20
)

// extremes are the least ints, the greatest ones, and some that are less far.
func extremes() []int {
	return []int{math.MinInt, math.MinInt + 1, -1<<32 - 1, -1 << 32, -1<<32 + 1, -top, -slow, -2, -1, 0, 1, 2, 3, slow - 1, slow, slow + 1, top - 1, top, top + 1, 1<<31 - 1, 1 << 31, 1<<32 - 1, 1 << 32, 1<<32 + 1, 1<<32 + top, math.MaxInt - 1, math.MaxInt}
}

// state is what an object tells.
type state struct{ now, mean, off, backs int }

func stateOf(r *rto.Rto) state {
	mean, off := r.Smooth()
	return state{r.Now(), mean, off, r.Backs()}
}

// stands compares the state of an object.
func stands(t *testing.T, r *rto.Rto, want state) {
	t.Helper()
	if got := stateOf(r); got != want {
		t.Errorf("%+v, not %+v", got, want)
	}
}

// start returns a new object.
func start(t *testing.T, least, most, first int) *rto.Rto {
	t.Helper()
	r, e := rto.New(least, most, first)
	if r == nil || e != api.OK {
		t.Fatalf("New(%d, %d, %d): error %d", least, most, first, int(e))
	}
	stands(t, r, state{now: first})
	return r
}

// P20.1, P20.2: the chapter's example.
func TestExample(t *testing.T) {
	r := start(t, 2, 100, 10)
	r.Sample(8)
	if mean, off := r.Smooth(); mean != 8 || off != 16/4 || r.Now() != 24 || r.Backs() != 0 {
		t.Errorf("behind Sample(8): %+v", stateOf(r))
	}
	for i, want := range []int{48, 96, 100} {
		r.Back()
		if r.Now() != want || r.Backs() != i+1 {
			t.Errorf("behind %d calls of Back: %+v", i+1, stateOf(r))
		}
	}
}

// P20.1: a new object has no measurements, and its timeout is first, whatever is equal of what it is given.
func TestNew(t *testing.T) {
	for _, n := range [][3]int{
		{1, 1, 1}, {2, 2, 2}, {top, top, top}, {1, top, 1}, {1, top, top}, {1, top, 77}, {1, 2, 1}, {1, 2, 2},
		{top - 1, top, top - 1}, {top - 1, top, top}, {5, 100, 5}, {5, 100, 6}, {5, 100, 99}, {5, 100, 100}, {7, 7, 7},
	} {
		r := start(t, n[0], n[1], n[2])
		r.Sample(0)
		stands(t, r, state{now: n[0]})
		for range 31 {
			r.Back()
		}
		stands(t, r, state{now: n[1], backs: 31})
	}
}

// P20.1: where New refuses: one fault alone, each next to what is permitted.
func TestNewRefuses(t *testing.T) {
	for _, n := range [][3]int{
		{0, 100, 10}, {-1, 100, 10}, {math.MinInt, 100, 10}, {11, 100, 10}, {0, 0, 0}, {-5, -1, -3}, {0, 1, 1}, {0, 1, 0},
		{5, 100, 4}, {5, 100, 0}, {5, 100, -5}, {5, 100, math.MinInt}, {5, 100, 101}, {5, 100, math.MaxInt}, {6, 6, 5}, {6, 6, 7},
		{5, 9, 10}, {5, 4, 5}, {5, 0, 5}, {5, -10, 5}, {5, math.MinInt, 5}, {math.MaxInt, 100, 10}, {2, 1, 1}, {2, 1, 2},
		{5, top + 1, 10}, {5, 1 << 31, 10}, {5, 1 << 32, 10}, {5, math.MaxInt, 10}, {top + 1, top + 1, top + 1}, {5, top + 1, top + 1}, {5, top, top + 1},
		{math.MaxInt, math.MaxInt, math.MaxInt}, {math.MinInt, math.MinInt, math.MinInt}, {10, 1, 5}, {math.MaxInt, math.MinInt, 0},
	} {
		if r, e := rto.New(n[0], n[1], n[2]); r != nil || e != api.ErrArg {
			t.Errorf("New(%d, %d, %d) = %v, error %d", n[0], n[1], n[2], r, int(e))
		}
	}
}

// P20.1: New of all of the extremes with one another.
func TestNewOfExtremes(t *testing.T) {
	for _, least := range extremes() {
		for _, most := range extremes() {
			for _, first := range extremes() {
				r, e := rto.New(least, most, first)
				if 1 <= least && least <= first && first <= most && most <= top {
					if r == nil || e != api.OK || stateOf(r) != (state{now: first}) {
						t.Errorf("New(%d, %d, %d): error %d, %+v", least, most, first, int(e), stateOf(r))
					}
					continue
				}
				if r != nil || e != api.ErrArg {
					t.Errorf("New(%d, %d, %d) = %v, error %d", least, most, first, r, int(e))
				}
			}
		}
	}
}

// P20.1, P20.2: a nil object answers 0 and does nothing.
func TestNilObject(t *testing.T) {
	var r *rto.Rto
	stands(t, r, state{})
	for _, n := range extremes() {
		r.Sample(n)
		stands(t, r, state{})
		r.Back()
		stands(t, r, state{})
	}
}

// P20.1, P20.2: no call of one object shows in another.
func TestObjectsDoNotAffectOneAnother(t *testing.T) {
	r, other, third := start(t, 2, 100, 10), start(t, 2, 100, 10), start(t, 30, 40, 35)
	r.Sample(8)
	r.Back()
	stands(t, r, state{48, 8, 4, 1})
	stands(t, other, state{now: 10})
	stands(t, third, state{now: 35})
	other.Back()
	other.Back()
	third.Sample(9)
	stands(t, r, state{48, 8, 4, 1})
	stands(t, other, state{now: 40, backs: 2})
	stands(t, third, state{30, 9, 4, 0})
	other.Sample(1)
	stands(t, r, state{48, 8, 4, 1})
	stands(t, other, state{3, 1, 0, 0})
	r.Sample(8)
	stands(t, r, state{20, 8, 3, 0})
	stands(t, other, state{3, 1, 0, 0})
	stands(t, third, state{30, 9, 4, 0})
	stands(t, start(t, 2, 100, 10), state{now: 10})
}
