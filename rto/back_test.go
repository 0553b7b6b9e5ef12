package rto_test

import "testing"

// P20.1: Back doubles, ahead of any measurement and behind one.
func TestBack(t *testing.T) {
	r := start(t, 1, 1000, 7)
	for i, want := range []int{14, 28, 56, 112, 224, 448, 896, 1000, 1000, 1000} {
		r.Back()
		stands(t, r, state{now: want, backs: i + 1})
	}
	r.Sample(11)
	stands(t, r, state{33, 11, 5, 0})
	for i, want := range []int{66, 132, 264, 528, 1000, 1000} {
		r.Back()
		stands(t, r, state{want, 11, 5, i + 1})
	}
}

// P20.1: a timeout of most / 2, one less and one more, and one of most, for even and odd ones.
func TestBackNearMost(t *testing.T) {
	for _, n := range [][3]int{ // most, first, the timeout behind Back
		{100, 49, 98}, {100, 50, 100}, {100, 51, 100}, {100, 99, 100}, {100, 100, 100},
		{101, 49, 98}, {101, 50, 100}, {101, 51, 101}, {101, 100, 101}, {101, 101, 101},
		{1, 1, 1}, {2, 1, 2}, {2, 2, 2}, {3, 1, 2}, {3, 2, 3}, {3, 3, 3}, {4, 2, 4}, {4, 1, 2},
		{top, top/2 - 1, top - 2}, {top, top / 2, top}, {top, top/2 + 1, top}, {top, top - 1, top}, {top, top, top},
		{top - 1, top/2 - 1, top - 2}, {top - 1, top / 2, top - 1}, {top - 1, top - 1, top - 1},
	} {
		r := start(t, 1, n[0], n[1])
		r.Back()
		stands(t, r, state{now: n[2], backs: 1})
		r.Back()
		stands(t, r, state{now: min(2*n[2], n[0]), backs: 2})
	}
}

// P20.1: many calls in a row: the timeout stays at most, and each one counts.
func TestManyBacks(t *testing.T) {
	for _, most := range []int{1, 100, 1 << 20, top - 1, top} {
		r := start(t, 1, most, 1)
		now := 1
		for i := range 100000 {
			r.Back()
			now = min(2*now, most)
			if r.Now() != now || r.Backs() != i+1 {
				t.Fatalf("most %d, behind %d calls: %+v", most, i+1, stateOf(r))
			}
		}
		r.Sample(0)
		stands(t, r, state{now: 1})
	}
}

// P20.1: Back leaves the measurements as they are: those that follow count as if it hadn't been called.
func TestBackLeavesTheMeasurements(t *testing.T) {
	r, plain := start(t, 1, 5000, 7), start(t, 1, 5000, 7)
	for i := range 200 {
		r.Sample(i * i % 301)
		plain.Sample(i * i % 301)
		for j := range i % 5 {
			r.Back()
			mean, off := plain.Smooth()
			stands(t, r, state{min(plain.Now()<<(j+1), 5000), mean, off, j + 1})
		}
	}
}
