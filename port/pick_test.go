package port_test

import (
	"testing"

	"towrope/api"
)

// P18.2: from low on, to high, and round to low again.
func TestPick(t *testing.T) {
	pick(t, start(t, 10, 14), 1, 10, 11, 12, 13, 14, 10, 11, 12, 13, 14, 10)
	pick(t, start(t, 1, 2), 0, 1, 2, 1, 2, 1)
	pick(t, start(t, 65534, 65535), 0, 65534, 65535, 65534, 65535)
}

// P18.2: with low equal to high, the same port each time, if it can be bound.
func TestPickOnePort(t *testing.T) {
	for _, no := range ports()[1:] {
		p := start(t, int(no), int(no))
		pick(t, p, 1, no, no, no)
		bind(t, p, end(1, no), 5)
		pickNot(t, p, 1, api.ErrFull)
		pickNot(t, p, 0, api.ErrFull)
		pick(t, p, 2, no, no)
		unbind(t, p, end(1, no), 5)
		pick(t, p, 1, no)
		pick(t, p, 0, no)
		bind(t, p, end(0, no), 5)
		for _, a := range addrs() {
			pickNot(t, p, a, api.ErrFull)
		}
		unbind(t, p, end(0, no), 5)
		pick(t, p, 2, no)
	}
}

// P18.2: all ports that there are, twice.
func TestPickAllPorts(t *testing.T) {
	p := start(t, 1, 65535)
	for i := range 2 * 65535 {
		want := uint16(1 + i%65535)
		if got, e := p.Pick(9); got != want || e != api.OK {
			t.Fatalf("Pick number %d: %d, error %d", i, got, int(e))
		}
	}
}

// P18.2: the first pick is the first port from low on that can be bound.
func TestPickFirst(t *testing.T) {
	p := start(t, 10, 14)
	bind(t, p, end(1, 10), 5)
	bind(t, p, end(0, 11), 5)
	bind(t, p, end(1, 13), 5)
	pick(t, p, 1, 12)
	q := start(t, 10, 14)
	for no := uint16(10); no < 14; no++ {
		bind(t, q, end(1, no), 5)
	}
	pick(t, q, 1, 14)
}

// P18.2: the order goes on behind the port that was picked last, whatever the address for which that was.
func TestPickGoesOn(t *testing.T) {
	p := start(t, 10, 14)
	pick(t, p, 1, 10)
	pick(t, p, 2, 11)
	pick(t, p, 0, 12)
	pick(t, p, far, 13)
	pick(t, p, 1, 14)
	pick(t, p, 1, 10)
}

// P18.2: the port that was picked last comes behind all others, though it can be bound, and is picked if no other can.
func TestPickLastAgain(t *testing.T) {
	p := start(t, 10, 13)
	pick(t, p, 1, 10, 11)
	bind(t, p, end(1, 12), 5)
	bind(t, p, end(1, 13), 5)
	pick(t, p, 1, 10)
	pick(t, p, 1, 11)
	bind(t, p, end(1, 10), 5)
	pick(t, p, 1, 11, 11, 11)
	unbind(t, p, end(1, 13), 5)
	pick(t, p, 1, 13, 11, 13, 11)
	bind(t, p, end(1, 11), 5)
	pick(t, p, 1, 13, 13)
	bind(t, p, end(1, 13), 5)
	pickNot(t, p, 1, api.ErrFull)
}

// P18.2: the port that was picked last was high: all are tried from low on, and high behind them.
func TestPickRoundFromHigh(t *testing.T) {
	p := start(t, 10, 13)
	pick(t, p, 1, 10, 11, 12, 13, 10)
	q := start(t, 10, 13)
	bind(t, q, end(1, 10), 5)
	bind(t, q, end(1, 11), 5)
	pick(t, q, 1, 12, 13, 12, 13)
	unbind(t, q, end(1, 10), 5)
	pick(t, q, 1, 10, 12)
}

// P18.2: what is picked is not bound by that: after a round it is picked again.
func TestPickBindsNothing(t *testing.T) {
	p := start(t, 10, 11)
	for range 1200 {
		pick(t, p, 1, 10, 11)
	}
	counts(t, p, 0, 0)
	ownsNot(t, p, end(1, 10))
	bind(t, p, end(1, 10), 5)
	bind(t, p, end(1, 11), 5)
}

// P18.2: ports that are bound at the address, at the address 0 and elsewhere, for the address 0 and for others.
func TestPickByAddress(t *testing.T) {
	p := start(t, 10, 13)
	bind(t, p, end(1, 10), 5)
	bind(t, p, end(0, 11), 5)
	bind(t, p, end(2, 12), 5)
	// 10 is bound at 1, 11 at all, 12 at 2, and 13 at none.
	for _, c := range []struct {
		a    api.Addr
		want []uint16
	}{
		{0, []uint16{13, 13, 13}},
		{1, []uint16{12, 13, 12, 13}},
		{2, []uint16{10, 13, 10, 13}},
		{3, []uint16{10, 12, 13, 10, 12, 13}},
		{far, []uint16{10, 12, 13}},
		{0, []uint16{13}},
	} {
		pick(t, p, c.a, c.want...)
	}
	bind(t, p, end(3, 13), 5)
	pickNot(t, p, 0, api.ErrFull)
	pick(t, p, 1, 12, 13)
	pick(t, p, 3, 10, 12, 10)
}

// P18.2: where none can be bound, none is picked, and the order goes on afterwards as if that had not been asked.
func TestPickNone(t *testing.T) {
	p := start(t, 10, 13)
	pick(t, p, 2, 10, 11)
	for no := uint16(10); no <= 13; no++ {
		bind(t, p, end(1, no), 5)
	}
	for range 7 {
		pickNot(t, p, 1, api.ErrFull)
		pickNot(t, p, 0, api.ErrFull)
	}
	pick(t, p, 2, 12)
	pickNot(t, p, 1, api.ErrFull)
	pick(t, p, 2, 13)
	pickNot(t, p, 0, api.ErrFull)
	unbind(t, p, end(1, 12), 5)
	unbind(t, p, end(1, 13), 5)
	pick(t, p, 0, 12, 13, 12)
}

// P18.2: if none was picked because none could be, the first that is picked later is still the first from low on.
func TestPickFirstBehindNone(t *testing.T) {
	p := start(t, 10, 12)
	for no := uint16(10); no <= 12; no++ {
		bind(t, p, end(0, no), 5)
	}
	pickNot(t, p, 1, api.ErrFull)
	pickNot(t, p, 0, api.ErrFull)
	unbind(t, p, end(0, 11), 5)
	unbind(t, p, end(0, 12), 5)
	pick(t, p, 1, 11, 12, 11)
}

// P18.2: as many ports as can be bound, and one more, can be picked from one to the other end.
func TestPickAmongMaxBound(t *testing.T) {
	p := start(t, 1000, 2024)
	for i := range 1024 {
		pick(t, p, 1, uint16(1000+i))
		bind(t, p, end(1, uint16(1000+i)), i)
	}
	pick(t, p, 1, 2024, 2024)
	pick(t, p, 0, 2024)
	// The table is full, and one is picked nevertheless.
	bindNot(t, p, end(1, 2024), 5, api.ErrFull)
	unbind(t, p, end(1, 1000), 0)
	bind(t, p, end(1, 2024), 5)
	pick(t, p, 1, 1000, 1000)
	q := start(t, 1000, 2023)
	for i := range 1024 {
		bind(t, q, end(0, uint16(1000+i)), i)
	}
	pickNot(t, q, 1, api.ErrFull)
}

// P18.2: ports outside of low to high are not picked, whatever is bound, and what is bound there does not matter.
func TestPickOutside(t *testing.T) {
	p := start(t, 11, 12)
	bind(t, p, end(0, 10), 5)
	bind(t, p, end(0, 13), 5)
	pick(t, p, 1, 11, 12, 11)
	bind(t, p, end(1, 11), 5)
	pick(t, p, 1, 12, 12)
	bind(t, p, end(1, 12), 5)
	pickNot(t, p, 1, api.ErrFull)
	unbind(t, p, end(0, 10), 5)
	unbind(t, p, end(0, 13), 5)
	pickNot(t, p, 1, api.ErrFull)
}

// P18.2: connections take no port.
func TestPickBesideConnections(t *testing.T) {
	p := start(t, 10, 11)
	join(t, p, quad(1, 10, 7, 70), 5)
	join(t, p, quad(1, 11, 7, 70), 5)
	pick(t, p, 1, 10, 11, 10)
}

// P18.2: binding, unbinding and connections don't move the place from which the next pick goes on.
func TestPickKeepsItsPlace(t *testing.T) {
	p := start(t, 10, 14)
	pick(t, p, 1, 10)
	bind(t, p, end(1, 13), 5)
	unbind(t, p, end(1, 13), 5)
	pick(t, p, 1, 11)
	bindNot(t, p, end(1, 0), 5, api.ErrRange)
	join(t, p, quad(1, 14, 7, 70), 5)
	part(t, p, quad(1, 14, 7, 70))
	unbindNot(t, p, end(1, 12), 5, api.ErrNone)
	pick(t, p, 1, 12)
	bind(t, p, end(1, 12), 5)
	pick(t, p, 1, 13)
	unbind(t, p, end(1, 12), 5)
	pick(t, p, 1, 14, 10, 11, 12)
}
