package udp_test

import (
	"testing"

	"towrope/api"
)

// errnos are numbers of errors, those that package api doesn't name and negative ones among them, and OK is not.
func errnos() []api.Errno {
	l := []api.Errno{api.ErrArg, api.ErrFull, api.ErrNone, api.ErrNil, api.ErrRange, api.ErrRefused, api.ErrReset, api.ErrNoNet, api.ErrTime, 42, 9999, 65536, -7}
	for _, n := range extremes() {
		if n != 0 {
			l = append(l, api.Errno(n))
		}
	}
	return l
}

// P19.2: the error that is told is taken, whatever number it is, once.
func TestTell(t *testing.T) {
	for _, e := range errnos() {
		b := start(t, 2, 5)
		tell(t, b, e)
		takeTold(t, b, 0, e)
		takeNot(t, b, 0, api.ErrNone)
		put(t, b, end(1, 10), "abc")
		tell(t, b, e)
		takeTold(t, b, -1, e)
		drain(t, b, mail(end(1, 10), "abc"))
	}
}

// P19.2: OK is not recorded, and does not take the place of what is.
func TestTellOK(t *testing.T) {
	b := start(t, 2, 5)
	b.Tell(api.OK)
	stands(t, b, state{})
	takeNot(t, b, 0, api.ErrNone)
	put(t, b, end(1, 10), "abc")
	b.Tell(api.OK)
	take(t, b, 9, end(1, 10), "abc")
	tell(t, b, api.ErrRefused)
	tell(t, b, api.OK)
	takeTold(t, b, 0, api.ErrRefused)
	b.Tell(api.OK)
	stands(t, b, state{})
	tell(t, b, api.ErrReset)
	takeTold(t, b, 0, api.ErrReset)
}

// P19.2: a second error is not recorded ahead of a Take, and is behind it.
func TestTellASecondError(t *testing.T) {
	for _, first := range errnos() {
		for _, second := range errnos() {
			b := start(t, 2, 5)
			tell(t, b, first)
			tell(t, b, second)
			tell(t, b, api.ErrTime)
			takeTold(t, b, 0, first)
			takeNot(t, b, 0, api.ErrNone)
			tell(t, b, second)
			tell(t, b, first)
			takeTold(t, b, 0, second)
			takeNot(t, b, 0, api.ErrNone)
		}
	}
}

// P19.2: an error stays recorded behind calls that take none.
func TestTellStays(t *testing.T) {
	one := end(1, 10)
	b := start(t, 2, 5)
	tell(t, b, api.ErrRefused)
	meet(t, b, one, 0, 0)
	put(t, b, one, "abc")
	putNot(t, b, end(2, 10), "x", api.ErrNone)
	putNot(t, b, one, "def", api.ErrFull)
	meetNot(t, b, end(1, 0), api.ErrRange)
	takeTold(t, b, 5, api.ErrRefused)
	drain(t, b, mail(one, "abc"))
}
