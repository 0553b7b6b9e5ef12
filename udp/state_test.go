package udp_test

import (
	"math"
	"testing"

	"towrope/api"
)

// P19.3: Len, Held, Lost and Ready behind each kind of call, with datagrams, with an error that was told, with both and with neither.
func TestStateBehindEachCall(t *testing.T) {
	one, two := end(1, 10), end(2, 10)
	b := start(t, 3, 10)
	taken := func(n int) func() api.Errno {
		return func() api.Errno { _, _, e := b.Take(n); return e }
	}
	told := func(e api.Errno) func() api.Errno {
		return func() api.Errno { b.Tell(e); return api.OK }
	}
	came := func(from api.End, n int) func() api.Errno {
		return func() api.Errno { return b.Put(mail(from, letters(n))) }
	}
	met := func(e api.End) func() api.Errno {
		return func() api.Errno { return b.Meet(e) }
	}
	steps := []struct {
		do              func() api.Errno
		e               api.Errno
		len, held, lost int
		ready           bool
	}{
		{taken(5), api.ErrNone, 0, 0, 0, false},
		{taken(-5), api.ErrNone, 0, 0, 0, false},
		{told(api.OK), api.OK, 0, 0, 0, false},
		{met(end(5, 0)), api.ErrRange, 0, 0, 0, false},
		{met(one), api.OK, 0, 0, 0, false},
		{came(two, 3), api.ErrNone, 0, 0, 0, false},
		{came(one, 11), api.ErrFull, 0, 0, 1, false},
		{told(api.ErrReset), api.OK, 0, 0, 1, true},
		{told(api.ErrTime), api.OK, 0, 0, 1, true},
		{told(api.OK), api.OK, 0, 0, 1, true},
		{met(end(5, 0)), api.ErrRange, 0, 0, 1, true},
		{met(api.End{}), api.OK, 0, 0, 1, true},
		{taken(0), api.ErrReset, 0, 0, 1, false},
		{came(one, 0), api.OK, 1, 0, 1, true},
		{told(api.ErrReset), api.OK, 1, 0, 1, true},
		{taken(-1), api.ErrReset, 1, 0, 1, true},
		{taken(-1), api.ErrArg, 1, 0, 1, true},
		{taken(0), api.OK, 0, 0, 1, false},
		{came(one, 4), api.OK, 1, 4, 1, true},
		{came(two, 5), api.OK, 2, 9, 1, true},
		{came(two, 2), api.ErrFull, 2, 9, 2, true},
		{came(two, 1), api.OK, 3, 10, 2, true},
		{came(two, 0), api.ErrFull, 3, 10, 3, true},
		{told(-3), api.OK, 3, 10, 3, true},
		{taken(0), -3, 3, 10, 3, true},
		{taken(1), api.OK, 2, 6, 3, true},
		{came(one, 4), api.OK, 3, 10, 3, true},
		{met(end(0, 0)), api.OK, 3, 10, 3, true},
		{met(two), api.OK, 2, 6, 4, true},
		{met(two), api.OK, 2, 6, 4, true},
		{told(api.ErrTime), api.OK, 2, 6, 4, true},
		{met(one), api.OK, 0, 0, 6, true},
		{taken(math.MaxInt), api.ErrTime, 0, 0, 6, false},
		{taken(math.MaxInt), api.ErrNone, 0, 0, 6, false},
		{came(one, 10), api.OK, 1, 10, 6, true},
		{taken(math.MinInt), api.ErrArg, 1, 10, 6, true},
		{met(two), api.OK, 0, 0, 7, false},
	}
	for i, step := range steps {
		if e := step.do(); e != step.e {
			t.Errorf("step %d: error %d, not %d", i, int(e), int(step.e))
		}
		if b.Len() != step.len || b.Held() != step.held || b.Lost() != step.lost || b.Ready() != step.ready {
			t.Errorf("step %d: %+v, not %+v", i, stateOf(b), step)
		}
	}
}

// P19.3: Lost never falls, and counts each datagram that Meet removed and each for which there was no room.
func TestLost(t *testing.T) {
	one, two := end(1, 10), end(2, 10)
	b := start(t, 64, 64)
	lost := 0
	for round := range 50 {
		for range 64 {
			put(t, b, two, "a")
		}
		for range round {
			putNot(t, b, one, "", api.ErrFull)
			lost++
		}
		take(t, b, 1, two, "a")
		put(t, b, one, "b")
		meet(t, b, one, 63, 63)
		lost += 63
		for range round {
			putNot(t, b, two, "c", api.ErrNone)
		}
		meet(t, b, api.End{}, 0, 0)
		drain(t, b, mail(one, "b"))
		if b.Lost() != lost {
			t.Errorf("round %d: Lost() = %d, not %d", round, b.Lost(), lost)
		}
	}
}
