package udp_test

import (
	"testing"

	"towrope/api"
)

// P19.1: datagrams of the end stay, in their order, and those of others are lost, wherever in the queue they are.
func TestMeet(t *testing.T) {
	one, two, three := end(1, 10), end(2, 10), end(1, 11)
	for _, c := range []struct {
		from []api.End
		left []int
	}{
		{nil, nil},
		{[]api.End{one}, []int{0}},
		{[]api.End{two}, nil},
		{[]api.End{{}}, nil},
		{[]api.End{two, one}, []int{1}},
		{[]api.End{one, two}, []int{0}},
		{[]api.End{one, two, one}, []int{0, 2}},
		{[]api.End{two, one, three}, []int{1}},
		{[]api.End{two, one, one}, []int{1, 2}},
		{[]api.End{one, one, two}, []int{0, 1}},
		{[]api.End{one, one, one}, []int{0, 1, 2}},
		{[]api.End{two, three, {}, end(0, 10), end(1, 0), end(10, 1)}, nil},
		{[]api.End{two, three, one, {}, one, end(0, 10), end(1, 0), one, one, end(10, 1)}, []int{2, 4, 7, 8}},
	} {
		b := start(t, 64, 1000)
		for i, e := range c.from {
			put(t, b, e, letters(1+i))
		}
		lost, left := 0, []api.Mail{}
		for _, i := range c.left {
			left = append(left, mail(one, letters(1+i)))
		}
		for i, e := range c.from {
			if e != one {
				lost += 1 + i
			}
		}
		meet(t, b, one, len(c.from)-len(c.left), lost)
		drain(t, b, left...)
	}
}

// P19.1: of each set of places in a queue of up to eight datagrams, those of others are lost.
func TestMeetEachSetOfPlaces(t *testing.T) {
	one, two := end(1, 10), end(2, 10)
	for n := range 9 {
		for set := range 1 << n {
			b := start(t, 64, 1000)
			var left []api.Mail
			lost := 0
			for i := range n {
				if set>>i&1 == 1 {
					put(t, b, one, letters(i))
					left = append(left, mail(one, letters(i)))
				} else {
					put(t, b, two, letters(i))
					lost += i
				}
			}
			meet(t, b, one, n-len(left), lost)
			drain(t, b, left...)
		}
	}
}

// P19.1: an end is the same only if its Addr and its Port are.
func TestMeetEachEnd(t *testing.T) {
	for _, e := range ends()[1:] {
		b := start(t, 64, 1000)
		bytes := 0
		for i, from := range ends() {
			put(t, b, from, letters(i))
			bytes += i
		}
		var mine string
		for i, from := range ends() {
			if from == e {
				mine = letters(i)
			}
		}
		meet(t, b, e, len(ends())-1, bytes-len(mine))
		for _, from := range ends() {
			if from != e {
				putNot(t, b, from, "x", api.ErrNone)
			}
		}
		put(t, b, e, "y")
		drain(t, b, mail(e, mine), mail(e, "y"))
	}
}

// P19.1: the same end again changes nothing.
func TestMeetTheSameEnd(t *testing.T) {
	for _, e := range ends() {
		b := filled(t, mail(e, "abc"))
		meet(t, b, e, 0, 0)
		put(t, b, e, "d")
		meet(t, b, e, 0, 0)
		meet(t, b, e, 0, 0)
		drain(t, b, mail(e, "abc"), mail(e, "d"))
		meet(t, b, e, 0, 0)
	}
}

// P19.1: another end takes the place of the one before, of which the datagrams are lost.
func TestMeetAnotherEnd(t *testing.T) {
	one, two := end(1, 10), end(2, 10)
	b := filled(t, mail(one, "abc"), mail(two, "de"), mail(one, "f"))
	meet(t, b, one, 1, 2)
	meet(t, b, two, 2, 4)
	putNot(t, b, one, "abc", api.ErrNone)
	put(t, b, two, "gh")
	meet(t, b, one, 1, 2)
	put(t, b, one, "i")
	putNot(t, b, two, "j", api.ErrNone)
	drain(t, b, mail(one, "i"))
	stands(t, b, state{lost: 4, peer: one, restricted: true})
}

// P19.1: the zero end permits all again, and loses none.
func TestMeetTheZeroEnd(t *testing.T) {
	one, two := end(1, 10), end(2, 10)
	b := filled(t, mail(one, "abc"), mail(two, "de"), mail(api.End{}, "f"))
	meet(t, b, api.End{}, 0, 0)
	drain(t, b, mail(one, "abc"), mail(two, "de"), mail(api.End{}, "f"))
	meet(t, b, one, 0, 0)
	put(t, b, one, "g")
	putNot(t, b, api.End{}, "h", api.ErrNone)
	meet(t, b, api.End{}, 0, 0)
	for _, e := range ends() {
		put(t, b, e, "i")
	}
	meet(t, b, api.End{}, 0, 0)
	if b.Len() != 1+len(ends()) || b.Lost() != 0 {
		t.Errorf("%+v", stateOf(b))
	}
	take(t, b, 9, one, "g")
	for _, e := range ends() {
		take(t, b, 9, e, "i")
	}
}

// P19.1: a Port of 0 with an Addr is no end: that changes nothing, with a restriction and without one.
func TestMeetAddrAlone(t *testing.T) {
	one := end(1, 10)
	for _, peer := range []api.End{{}, one, end(0, 10)} {
		for _, a := range []api.Addr{1, 2, 10, 1 << 31, far - 1, far} {
			b := start(t, 64, 1000)
			meetNot(t, b, end(a, 0), api.ErrRange)
			meet(t, b, peer, 0, 0)
			put(t, b, peer, "abc")
			if peer == (api.End{}) {
				put(t, b, end(a, 0), "d")
				put(t, b, end(a, 10), "e")
			}
			tell(t, b, api.ErrReset)
			meetNot(t, b, end(a, 0), api.ErrRange)
			meetNot(t, b, end(a, 0), api.ErrRange)
			takeTold(t, b, 9, api.ErrReset)
			put(t, b, peer, "f")
			if peer == (api.End{}) {
				drain(t, b, mail(peer, "abc"), mail(end(a, 0), "d"), mail(end(a, 10), "e"), mail(peer, "f"))
				continue
			}
			putNot(t, b, end(a, 0), "x", api.ErrNone)
			drain(t, b, mail(peer, "abc"), mail(peer, "f"))
		}
	}
}

// P19.1: an Addr of 0 with a Port is an end as others are, and stands for no other.
func TestMeetPortAlone(t *testing.T) {
	for _, port := range []uint16{1, 10, 255, 256, 65535} {
		e := end(0, port)
		b := filled(t, mail(end(1, port), "abc"), mail(e, "de"), mail(api.End{}, "f"), mail(end(0, port-1), "g"))
		meet(t, b, e, 3, 5)
		putNot(t, b, end(1, port), "h", api.ErrNone)
		putNot(t, b, api.End{}, "i", api.ErrNone)
		put(t, b, e, "j")
		drain(t, b, mail(e, "de"), mail(e, "j"))
	}
}

// P19.1: datagrams that are removed leave room behind them, for datagrams and for bytes.
func TestMeetMakesRoom(t *testing.T) {
	one, two := end(1, 10), end(2, 10)
	b := start(t, 4, 10)
	put(t, b, two, "abc")
	put(t, b, one, "de")
	put(t, b, two, "f")
	put(t, b, one, "ghij")
	putNot(t, b, one, "", api.ErrFull)
	meet(t, b, one, 2, 4)
	putNot(t, b, one, "klmno", api.ErrFull)
	put(t, b, one, "klmn")
	putNot(t, b, one, "o", api.ErrFull)
	put(t, b, one, "")
	putNot(t, b, one, "", api.ErrFull)
	meet(t, b, two, 4, 10)
	put(t, b, two, letters(10))
	drain(t, b, mail(two, letters(10)))
	if b.Lost() != 10 {
		t.Errorf("Lost() = %d", b.Lost())
	}
}

// P19.1: an error that was told stays, whoever is met.
func TestMeetLeavesWhatWasTold(t *testing.T) {
	one, two := end(1, 10), end(2, 10)
	b := filled(t, mail(two, "abc"))
	tell(t, b, api.ErrRefused)
	if e := b.Meet(one); e != api.OK {
		t.Errorf("error %d", int(e))
	}
	stands(t, b, state{0, 0, 1, true, one, true})
	meet(t, b, two, 0, 0)
	meet(t, b, api.End{}, 0, 0)
	takeTold(t, b, 9, api.ErrRefused)
	takeNot(t, b, 9, api.ErrNone)
}

// P19.1: Peer ahead of any Meet, and behind each kind of it.
func TestPeer(t *testing.T) {
	b := start(t, 1, 1)
	peer := func(want api.End, restricted bool) {
		t.Helper()
		if e, ok := b.Peer(); e != want || ok != restricted {
			t.Errorf("Peer() = %v, %v, not %v, %v", e, ok, want, restricted)
		}
	}
	peer(api.End{}, false)
	b.Meet(end(5, 0))
	peer(api.End{}, false)
	b.Meet(api.End{})
	peer(api.End{}, false)
	for _, e := range ends()[1:] {
		b.Meet(e)
		peer(e, true)
		b.Meet(end(5, 0))
		peer(e, true)
		b.Put(mail(e, "a"))
		b.Put(mail(end(77, 77), "a"))
		b.Tell(api.ErrReset)
		peer(e, true)
		b.Take(1)
		b.Take(1)
		b.Take(1)
		peer(e, true)
	}
	b.Meet(api.End{})
	peer(api.End{}, false)
	b.Meet(end(far, 0))
	peer(api.End{}, false)
	b.Meet(end(0, 1))
	peer(end(0, 1), true)
}
