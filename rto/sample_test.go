package rto_test

import (
	"math"
	"testing"
)

// P20.1: the first measurement R: M is 8R and V is 2R, so that the timeout is 3R.
func TestFirstSample(t *testing.T) {
	for _, n := range []int{1, 2, 3, 4, 5, 7, 8, 9, 100, 1023, 65535, slow - 1, slow} {
		r := start(t, 1, top, 5)
		r.Sample(n)
		stands(t, r, state{3 * n, n, n / 2, 0})
	}
}

// P20.1: a first measurement where V is less than 1: the timeout is M/8 plus 1.
func TestFirstSampleOfNothing(t *testing.T) {
	r := start(t, 1, top, 5)
	r.Sample(0)
	stands(t, r, state{now: 1})
	r.Sample(0)
	stands(t, r, state{now: 1})
	r = start(t, 4, top, 5)
	r.Sample(0)
	stands(t, r, state{now: 4})
}

// P20.1: 0 is a measurement as others are: the next one isn't the first.
func TestSampleBehindNothing(t *testing.T) {
	r := start(t, 1, top, 5)
	r.Sample(0)
	r.Sample(8) // d = 8: M = 8, V = 8
	stands(t, r, state{9, 1, 2, 0})
	r.Sample(8) // d = 7: M = 15, V = 8 - 2 + 7
	stands(t, r, state{14, 1, 3, 0})
	r.Sample(8) // d = 7: M = 22, V = 13 - 3 + 7
	stands(t, r, state{19, 2, 4, 0})
}

// P20.1: Back isn't a measurement: the first one comes behind it.
func TestFirstSampleBehindBack(t *testing.T) {
	r := start(t, 1, 1000, 5)
	r.Back()
	r.Back()
	stands(t, r, state{now: 20, backs: 2})
	r.Sample(10)
	stands(t, r, state{30, 10, 5, 0})
}

// P20.1: the bounds of the first measurement and of a later one.
func TestBoundsOfSample(t *testing.T) {
	for _, n := range extremes() {
		counts := n
		if n < 0 {
			counts = 0
		}
		if n > slow {
			counts = slow
		}
		r := start(t, 1, top, 5)
		r.Sample(n)
		stands(t, r, state{max(1, 3*counts), counts, counts / 2, 0})
		r = start(t, 1, top, 5)
		r.Sample(1000)
		r.Sample(n)
		d := counts - 1000
		off := 2000 - 500
		if d < 0 {
			off -= d
		} else {
			off += d
		}
		stands(t, r, state{(8000+d)/8 + off, (8000 + d) / 8, off / 4, 0})
	}
}

// P20.1: a later measurement that is the mean, below it and above it, with rests in M and in V.
func TestLaterSample(t *testing.T) {
	steps := []struct {
		ticks int
		want  state
	}{
		{100, state{300, 100, 50, 0}}, // M = 800, V = 200
		{100, state{250, 100, 37, 0}}, // M = 800, V = 150
		{99, state{213, 99, 28, 0}},   // d = -1: M = 799, V = 150 - 37 + 1
		{101, state{188, 100, 22, 0}}, // d = 2: M = 801, V = 114 - 28 + 2
		{100, state{166, 100, 16, 0}}, // d = 0: M = 801, V = 88 - 22
		{0, state{237, 87, 37, 0}},    // d = -100: M = 701, V = 66 - 16 + 100
		{200, state{327, 101, 56, 0}}, // d = 113: M = 814, V = 150 - 37 + 113
		{102, state{272, 101, 42, 0}}, // d = 1: M = 815, V = 226 - 56 + 1
		{108, state{238, 102, 34, 0}}, // d = 7: M = 822, V = 171 - 42 + 7
		{102, state{204, 102, 25, 0}}, // d = 0: M = 822, V = 136 - 34
	}
	r := start(t, 1, 1000, 5)
	for i, step := range steps {
		r.Sample(step.ticks)
		if got := stateOf(r); got != step.want {
			t.Fatalf("step %d, Sample(%d): %+v, not %+v", i, step.ticks, got, step.want)
		}
	}
}

// P20.1: a later measurement where V is 1, 2 and 3, and where it is less than 1.
func TestLaterSampleOfLittle(t *testing.T) {
	r := start(t, 1, 1000, 5)
	r.Sample(1) // M = 8, V = 2
	stands(t, r, state{3, 1, 0, 0})
	r.Sample(1)
	stands(t, r, state{3, 1, 0, 0})
	r.Sample(0) // d = -1: M = 7, V = 3
	stands(t, r, state{3, 0, 0, 0})
	r.Sample(0)
	stands(t, r, state{3, 0, 0, 0})
	r.Sample(1) // d = 1: M = 8, V = 4
	stands(t, r, state{5, 1, 1, 0})
	r.Sample(1) // d = 0: V = 3
	stands(t, r, state{4, 1, 0, 0})
	r = start(t, 1, 1000, 5)
	r.Sample(0)
	r.Sample(1) // d = 1: M = 1, V = 1
	stands(t, r, state{1, 0, 0, 0})
	r.Sample(0) // d = 0
	stands(t, r, state{1, 0, 0, 0})
	r.Sample(1) // d = 1: M = 2, V = 2
	stands(t, r, state{2, 0, 0, 0})
}

// P20.1: the timeout is at least least and at most most; M and V are not cut.
func TestBoundsOfTheTimeout(t *testing.T) {
	for _, n := range [][4]int{ // least, most, what is measured first, the timeout
		{30, 60, 9, 30}, {30, 60, 10, 30}, {30, 60, 11, 33}, {30, 60, 19, 57}, {30, 60, 20, 60}, {30, 60, 21, 60}, {30, 60, slow, 60},
		{29, 60, 10, 30}, {31, 60, 10, 31}, {30, 59, 20, 59}, {30, 61, 20, 60}, {30, 61, 21, 61}, {45, 45, 15, 45}, {45, 45, 14, 45}, {45, 45, 16, 45},
		{1, 1, 0, 1}, {1, 1, 1, 1}, {1, 2, 1, 2}, {1, 3, 1, 3}, {1, 4, 1, 3}, {1, 1, slow, 1}, {top, top, 0, top}, {top, top, slow, top},
		{1, 3*slow - 1, slow, 3*slow - 1}, {1, 3 * slow, slow, 3 * slow}, {1, 3*slow + 1, slow, 3 * slow}, {3*slow + 1, top, slow, 3*slow + 1},
	} {
		r := start(t, n[0], n[1], n[0])
		r.Sample(n[2])
		stands(t, r, state{n[3], n[2], n[2] / 2, 0})
		r.Sample(n[2]) // V = 2R - R/2
		off := 2*n[2] - n[2]/2
		stands(t, r, state{min(max(n[2]+max(off, 1), n[0]), n[1]), n[2], off / 4, 0})
	}
	r := start(t, 10, 12, 11)
	r.Sample(1000)
	stands(t, r, state{12, 1000, 500, 0})
	r.Sample(math.MinInt) // d = -1000: M = 7000, V = 2000 - 500 + 1000
	stands(t, r, state{12, 875, 625, 0})
}

// P20.1: the number of backoffs is 0 behind a measurement, and the timeout is that of the measurements alone, however often it was backed off.
func TestSampleBehindBack(t *testing.T) {
	for backs := range 40 {
		r, plain := start(t, 1, 1000, 5), start(t, 1, 1000, 5)
		for _, n := range []int{10, 10, 30, 0, 500} {
			for i := range backs {
				r.Back()
				if r.Backs() != i+1 {
					t.Errorf("Backs() = %d behind %d", r.Backs(), i+1)
				}
			}
			r.Sample(n)
			plain.Sample(n)
			stands(t, r, stateOf(plain))
		}
	}
}

// P20.1: measurements as great as can be, by turns with those of 0, as far off as can be.
func TestSamplesFarOff(t *testing.T) {
	r := start(t, 1, top, 5)
	r.Sample(math.MaxInt)
	stands(t, r, state{3 * slow, slow, slow / 2, 0}) // V = 2^21
	r.Sample(math.MinInt)                            // d = -2^20: M = 7 * 2^20, V = 2^21 - 2^19 + 2^20
	stands(t, r, state{slow/8*7 + slow/2*5, slow / 8 * 7, slow / 8 * 5, 0})
	r.Sample(math.MaxInt) // d = 2^17: M = 7 * 2^20 + 2^17, V = 5 * 2^19 - 5 * 2^17 + 2^17
	stands(t, r, state{57*slow/64 + 2*slow, 57 * slow / 64, slow / 2, 0})
}
