package rto_test

import (
	"math"
	"math/big"
	"testing"

	"towrope/rto"
)

// call is Back, or Sample of a number of ticks.
type call struct {
	back  bool
	ticks int
}

func (c call) of(r *rto.Rto) {
	if c.back {
		r.Back()
		return
	}
	r.Sample(c.ticks)
}

// model tells in another way than the program what an object answers: it keeps all calls, and works out each answer from the first of them on, in eighths and fourths that have no bounds and are rounded upwards where the program rounds what it takes off downwards.
type model struct {
	least, most, first int
	calls              []call
}

// up is n parts of a number, of which there are as many as whole, rounded upwards.
func up(x *big.Int, n, whole int64) *big.Int {
	y := new(big.Int).Mul(x, big.NewInt(n))
	y.Add(y, big.NewInt(whole-1))
	return y.Div(y, big.NewInt(whole))
}

// counted is the measurement as which a number of ticks counts.
func counted(ticks int) *big.Int {
	switch {
	case ticks <= 0:
		return big.NewInt(0)
	case ticks > 1048575:
		return big.NewInt(1048576)
	}
	return big.NewInt(int64(ticks))
}

// smooth are M and V behind all measurements: M - M/8 is 7/8 of M, and V - V/4 is 3/4 of V, both rounded upwards.
func (m *model) smooth() (mean, off *big.Int) {
	mean, off = new(big.Int), new(big.Int)
	first := true
	for _, c := range m.calls {
		if c.back {
			continue
		}
		n := counted(c.ticks)
		if first {
			first = false
			mean.Lsh(n, 3)
			off.Lsh(n, 1)
			continue
		}
		d := new(big.Int).Sub(n, new(big.Int).Rsh(mean, 3))
		mean = up(mean, 7, 8)
		mean.Add(mean, n)
		off = up(off, 3, 4)
		off.Add(off, d.Abs(d))
	}
	return mean, off
}

// backs are the calls of Back behind the last Sample, and whether there is one.
func (m *model) backs() (n int, sampled bool) {
	for i := len(m.calls) - 1; i >= 0; i-- {
		if !m.calls[i].back {
			return n, true
		}
		n++
	}
	return n, false
}

func (m *model) state() state {
	mean, off := m.smooth()
	backs, sampled := m.backs()
	now := big.NewInt(int64(m.first))
	if sampled {
		now.Rsh(mean, 3)
		if off.Sign() > 0 {
			now.Add(now, off)
		} else {
			now.Add(now, big.NewInt(1))
		}
	}
	if least := big.NewInt(int64(m.least)); now.Cmp(least) < 0 {
		now = least
	}
	now.Lsh(now, uint(backs))
	if most := big.NewInt(int64(m.most)); now.Cmp(most) > 0 {
		now = most
	}
	return state{int(now.Int64()), int(mean.Int64() >> 3), int(off.Int64() >> 2), backs}
}

// both are an object and its model.
type both struct {
	t *testing.T
	r *rto.Rto
	m *model
}

func newBoth(t *testing.T, least, most, first int) *both {
	t.Helper()
	return &both{t, start(t, least, most, first), &model{least: least, most: most, first: first}}
}

// do makes a call of both, and compares what is told behind it.
func (b *both) do(c call) {
	b.t.Helper()
	c.of(b.r)
	b.m.calls = append(b.m.calls, c)
	if got, want := stateOf(b.r), b.m.state(); got != want {
		b.t.Fatalf("New(%d, %d, %d), %+v: %+v, not %+v", b.m.least, b.m.most, b.m.first, b.m.calls[max(0, len(b.m.calls)-20):], got, want)
	}
}

// rows calls f with each row of n of the calls.
func rows(n int, calls []call, f func(row []call)) {
	row := make([]call, n)
	var fill func(at int)
	fill = func(at int) {
		if at == n {
			f(row)
			return
		}
		for _, c := range calls {
			row[at] = c
			fill(at + 1)
		}
	}
	fill(0)
}

// P20.1, P20.2: all rows of five calls, with little numbers.
func TestAllRowsOfFiveCalls(t *testing.T) {
	calls := []call{{true, 0}, {false, 0}, {false, 1}, {false, 2}, {false, 5}, {false, 17}}
	rows(5, calls, func(row []call) {
		b := newBoth(t, 3, 40, 6)
		for _, c := range row {
			b.do(c)
		}
	})
}

// P20.1, P20.2: all rows of three calls, wrong and great numbers among them, in objects of several bounds.
func TestAllRowsOfThreeCalls(t *testing.T) {
	calls := []call{{true, 0}, {false, math.MinInt}, {false, -1}, {false, 0}, {false, 1}, {false, 1000}, {false, slow - 1}, {false, slow}, {false, slow + 1}, {false, math.MaxInt}}
	for _, n := range [][3]int{{1, 1, 1}, {1, top, 1}, {1, top, top}, {top, top, top}, {100, 3000, 100}, {slow, 2*slow + 1, slow + 7}} {
		rows(3, calls, func(row []call) {
			b := newBoth(t, n[0], n[1], n[2])
			for _, c := range row {
				b.do(c)
			}
		})
	}
}

// chance returns numbers that follow no plain pattern, other ones for each seed.
func chance(seed uint64) func(n int) int {
	return func(n int) int {
		seed = seed*6364136223846793005 + 1442695040888963407
		return int(seed>>20&math.MaxInt32) % n
	}
}

// anyCall returns a call of no plain pattern, with fewer ticks than that many mostly.
func anyCall(next func(n int) int, ticks int) call {
	switch k := next(20); {
	case k < 6:
		return call{back: true}
	case k < 7:
		return call{ticks: extremes()[next(len(extremes()))]}
	case k < 12:
		return call{ticks: ticks/2 + next(9) - 4}
	}
	return call{ticks: next(ticks)}
}

// P20.1, P20.2: long runs of calls of no plain pattern.
func TestRunsOfCalls(t *testing.T) {
	for seed := range uint64(60) {
		next := chance(seed)
		ticks := []int{2, 9, 100, 5000, slow + 100}[seed%5]
		least := 1 + next(ticks)
		most := least + next(4*ticks)
		b := newBoth(t, least, most, least+next(most-least+1))
		for range 200 {
			b.do(anyCall(next, ticks))
		}
	}
}
