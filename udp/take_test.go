package udp_test

import (
	"math"
	"testing"

	"towrope/api"
)

// P19.2: the first n bytes, all if there are fewer, and how many there were: the rest is gone with them.
func TestTake(t *testing.T) {
	one, two := end(1, 10), end(2, 10)
	for size := range 12 {
		for _, n := range []int{0, 1, 2, size - 1, size, size + 1, 65536, 1 << 32, math.MaxInt - 1, math.MaxInt} {
			if n < 0 {
				continue
			}
			b := filled(t, mail(one, letters(size)), mail(two, "next"))
			m, whole, e := b.Take(n)
			if m.From != one || string(m.Data) != letters(size)[:min(n, size)] || whole != size || e != api.OK {
				t.Errorf("Take(%d) of %d bytes = %q from %v of %d, error %d", n, size, m.Data, m.From, whole, int(e))
			}
			stands(t, b, state{len: 1, held: 4, ready: true})
			drain(t, b, mail(two, "next"))
		}
	}
}

// P19.2: a negative n takes nothing.
func TestTakeNegative(t *testing.T) {
	one, two := end(1, 10), end(2, 10)
	b := filled(t, mail(one, "abc"), mail(two, ""))
	for _, n := range extremes() {
		if n < 0 {
			takeNot(t, b, n, api.ErrArg)
		}
	}
	take(t, b, 2, one, "abc")
	takeNot(t, b, -1, api.ErrArg)
	take(t, b, 0, two, "")
	takeNot(t, b, -1, api.ErrNone)
}

// P19.2: an empty box has none, whatever n is: new, behind the last Take, and behind a Meet that removed all.
func TestTakeEmpty(t *testing.T) {
	b := start(t, 2, 5)
	for range 3 {
		for _, n := range extremes() {
			takeNot(t, b, n, api.ErrNone)
		}
		put(t, b, end(1, 10), "abc")
		take(t, b, 9, end(1, 10), "abc")
	}
	put(t, b, end(1, 10), "abc")
	meet(t, b, end(2, 10), 1, 3)
	for _, n := range extremes() {
		takeNot(t, b, n, api.ErrNone)
	}
}

// P19.2: a datagram without bytes is one, from wherever it is.
func TestTakeNoBytes(t *testing.T) {
	for _, e := range ends() {
		b := filled(t, mail(e, ""), mail(e, ""))
		take(t, b, 0, e, "")
		take(t, b, 5, e, "")
		takeNot(t, b, 0, api.ErrNone)
		if err := b.Put(api.Mail{From: e}); err != api.OK {
			t.Errorf("Put of nil: error %d", int(err))
		}
		stands(t, b, state{len: 1, ready: true})
		take(t, b, 5, e, "")
	}
}

// P19.2: what is told comes ahead of all else: of datagrams, of their lack, and of a negative n.
func TestTakeWhatWasTold(t *testing.T) {
	one := end(1, 10)
	for _, n := range extremes() {
		b := start(t, 2, 5)
		tell(t, b, api.ErrRefused)
		takeTold(t, b, n, api.ErrRefused)
		takeNot(t, b, n, api.ErrNone)
		put(t, b, one, "abc")
		put(t, b, one, "de")
		tell(t, b, api.ErrReset)
		takeTold(t, b, n, api.ErrReset)
		if n < 0 {
			takeNot(t, b, n, api.ErrArg)
		} else {
			take(t, b, n, one, "abc")
		}
		tell(t, b, api.ErrTimeout)
		takeTold(t, b, n, api.ErrTimeout)
		if n < 0 {
			take(t, b, 5, one, "abc")
		}
		drain(t, b, mail(one, "de"))
	}
}

// P19.2: Take returns the room of the whole datagram, however few of its bytes are taken.
func TestTakeMakesRoom(t *testing.T) {
	one := end(1, 10)
	for n := range 8 {
		b := start(t, 2, 6)
		put(t, b, one, "abcd")
		put(t, b, one, "ef")
		putNot(t, b, one, "", api.ErrFull)
		take(t, b, n, one, "abcd")
		putNot(t, b, one, "ghijk", api.ErrFull)
		put(t, b, one, "ghij")
		putNot(t, b, one, "", api.ErrFull)
		drain(t, b, mail(one, "ef"), mail(one, "ghij"))
		put(t, b, one, letters(6))
	}
}

// P19.2: what is met does not hinder Take.
func TestTakeWhereOneIsMet(t *testing.T) {
	one, two := end(1, 10), end(2, 10)
	b := filled(t, mail(one, "abc"), mail(two, "de"), mail(one, "fg"))
	meet(t, b, one, 1, 2)
	take(t, b, 2, one, "abc")
	meet(t, b, api.End{}, 0, 0)
	put(t, b, two, "h")
	take(t, b, 2, one, "fg")
	take(t, b, 2, two, "h")
	takeNot(t, b, 2, api.ErrNone)
}
