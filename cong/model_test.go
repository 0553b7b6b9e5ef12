package cong_test

import (
	"math"
	"math/big"
	"testing"

	"towrope/cong"
)

// The kinds of calls.
const (
	acked = iota
	again
	gone
	kinds
)

// call is Ack, Dup or Lost of a number.
type call struct{ kind, n int }

// of makes the call, and returns what it answers.
func (c call) of(x *cong.Cong) bool {
	switch c.kind {
	case acked:
		x.Ack(c.n)
	case again:
		return x.Dup(c.n)
	case gone:
		x.Lost(c.n)
	}
	return false
}

// model tells in another way than the program what an object answers: with numbers that have no bounds, cut behind each call, with fast recovery as a part of its own, and case by case as the chapter has them.
type model struct {
	mss, window, limit, dups *big.Int
	fast                     bool
}

func number(n int) *big.Int            { return big.NewInt(int64(n)) }
func plus(x, y *big.Int) *big.Int      { return new(big.Int).Add(x, y) }
func times(n int, x *big.Int) *big.Int { return new(big.Int).Mul(number(n), x) }
func over(x, y *big.Int) *big.Int      { return new(big.Int).Div(x, y) }
func less(x, y *big.Int) bool          { return x.Cmp(y) < 0 }
func lesser(x, y *big.Int) *big.Int    { return pick(less(x, y), x, y) }
func greater(x, y *big.Int) *big.Int   { return pick(less(x, y), y, x) }
func pick(b bool, x, y *big.Int) *big.Int {
	if b {
		return x
	}
	return y
}

func newModel(mss int) *model {
	m := &model{mss: number(mss), limit: number(top), dups: number(0)}
	m.window = lesser(greater(number(4380), times(2, m.mss)), times(4, m.mss))
	return m
}

// do makes a call, and returns what it answers.
func (m *model) do(c call) bool {
	fresh := false
	switch c.kind {
	case acked:
		m.ack(number(c.n))
	case again:
		fresh = m.dup(number(c.n))
	case gone:
		m.lost(number(c.n))
	}
	m.window = lesser(m.window, number(top))
	m.limit = lesser(m.limit, number(top))
	m.dups = lesser(m.dups, number(top))
	return fresh
}

func (m *model) ack(n *big.Int) {
	if less(n, number(1)) {
		return
	}
	m.dups = number(0)
	if m.fast {
		m.window, m.fast = m.limit, false
		return
	}
	if less(m.window, m.limit) {
		m.window = plus(m.window, lesser(n, m.mss))
		return
	}
	share := over(new(big.Int).Mul(m.mss, m.mss), m.window)
	m.window = plus(m.window, greater(share, number(1)))
}

func (m *model) dup(flight *big.Int) bool {
	m.dups = plus(m.dups, number(1))
	if m.fast {
		m.window = plus(m.window, m.mss)
		return false
	}
	if m.dups.Cmp(number(3)) != 0 {
		return false
	}
	m.limit = m.part(flight)
	m.window = plus(m.limit, times(3, m.mss))
	m.fast = true
	return true
}

func (m *model) lost(flight *big.Int) {
	m.limit = m.part(flight)
	m.window, m.fast, m.dups = m.mss, false, number(0)
}

// part is the limit that is made of a flight.
func (m *model) part(flight *big.Int) *big.Int {
	if flight.Sign() < 0 {
		flight = number(0)
	}
	return greater(over(flight, number(2)), times(2, m.mss))
}

func (m *model) state() state {
	return state{int(m.window.Int64()), int(m.limit.Int64()), m.fast, int(m.dups.Int64())}
}

// both are an object and its model, and what was called.
type both struct {
	t     *testing.T
	c     *cong.Cong
	m     *model
	mss   int
	calls []call
}

func newBoth(t *testing.T, mss int) *both {
	t.Helper()
	b := &both{t: t, c: start(t, mss), m: newModel(mss), mss: mss}
	stands(t, b.c, b.m.state())
	return b
}

// do makes a call of both, and compares what it answers and what is told behind it.
func (b *both) do(c call) {
	b.t.Helper()
	b.calls = append(b.calls, c)
	got, want := c.of(b.c), b.m.do(c)
	if got != want || stateOf(b.c) != b.m.state() {
		b.t.Fatalf("New(%d), %+v: %v, %+v, not %v, %+v", b.mss, b.calls[max(0, len(b.calls)-20):], got, stateOf(b.c), want, b.m.state())
	}
}

// rows calls f with each row of n of the calls.
func rows(n int, calls []call, f func(row []call)) {
	row := make([]call, n)
	var fill func(at int)
	fill = func(at int) {
		if at == n {
			f(row)
			return
		}
		for _, c := range calls {
			row[at] = c
			fill(at + 1)
		}
	}
	fill(0)
}

// P21.1, P21.2, P21.3: all rows of six calls, with little numbers.
func TestAllRowsOfSixCalls(t *testing.T) {
	calls := []call{{acked, 0}, {acked, 2}, {acked, 10}, {again, 0}, {again, 50}, {gone, 31}}
	rows(6, calls, func(row []call) {
		b := newBoth(t, 5)
		for _, c := range row {
			b.do(c)
		}
	})
}

// P21.1, P21.2, P21.3: all rows of three calls of each kind, wrong and great numbers among them, in objects of several mss, ahead of fast recovery and in it.
func TestAllRowsOfThreeCalls(t *testing.T) {
	for _, mss := range []int{1, 2, 1095, 2191, most} {
		var calls []call
		for _, n := range []int{math.MinInt, -1, 0, 1, mss - 1, mss + 1, 4*mss - 1, 4*mss + 2, 2*top - 1, 2*top + 2, math.MaxInt} {
			for kind := range kinds {
				calls = append(calls, call{kind, n})
			}
		}
		rows(3, calls, func(row []call) {
			for _, before := range []int{0, 2, 3} {
				b := newBoth(t, mss)
				for range before {
					b.do(call{again, 10 * mss})
				}
				for _, c := range row {
					b.do(c)
				}
			}
		})
	}
}

// chance returns numbers that follow no plain pattern, other ones for each seed.
func chance(seed uint64) func(n int) int {
	return func(n int) int {
		seed = seed*6364136223846793005 + 1442695040888963407
		return int(seed>>20&math.MaxInt32) % n
	}
}

// anyCall returns a call of no plain pattern: often one that acknowledges something, seldom Lost.
func anyCall(next func(n int) int, mss int) call {
	n := next(3*mss + 3)
	switch next(12) {
	case 0:
		n = extremes()[next(len(extremes()))]
	case 1:
		n = 4*mss + next(9) - 4
	case 2:
		n = next(40 * mss)
	}
	switch k := next(20); {
	case k < 11:
		return call{acked, n}
	case k < 19:
		return call{again, n}
	}
	return call{gone, n}
}

// P21.1, P21.2, P21.3: long runs of calls of no plain pattern.
func TestRunsOfCalls(t *testing.T) {
	for seed := range uint64(100) {
		next := chance(seed)
		mss := []int{1, 3, 88, 536, 1095, 1460, 2191, 9000, most - 1, most}[seed%10]
		b := newBoth(t, mss)
		for range 2000 {
			b.do(anyCall(next, mss))
		}
	}
}
