package port_test

import (
	"math"
	"testing"

	"towrope/api"
)

// P18.1: ends at several addresses and ports, each with its owner.
func TestBind(t *testing.T) {
	p := start(t, 10, 12)
	bind(t, p, end(1, 80), 5)
	bind(t, p, end(2, 80), 6)
	bind(t, p, end(far, 80), 7)
	bind(t, p, end(1, 11), 8)
	bind(t, p, end(0, 12), 9)
	owns(t, p, end(1, 80), 5)
	owns(t, p, end(2, 80), 6)
	owns(t, p, end(far, 80), 7)
	owns(t, p, end(1, 11), 8)
	owns(t, p, end(0, 12), 9)
	ownsNot(t, p, end(3, 80))
	ownsNot(t, p, end(0, 80))
	ownsNot(t, p, end(2, 11))
	counts(t, p, 5, 0)
}

// P18.1: the port may be 1 to 65535, whatever is picked, and not 0.
func TestBindPorts(t *testing.T) {
	for _, a := range addrs() {
		for _, no := range ports() {
			p := start(t, 10, 12)
			if no == 0 {
				bindNot(t, p, end(a, no), 5, api.ErrRange)
				counts(t, p, 0, 0)
				continue
			}
			bind(t, p, end(a, no), 5)
			for _, other := range ports() {
				if other != no {
					ownsNot(t, p, end(a, other))
				}
			}
		}
	}
}

// P18.1: every port of an address that is bound at none but this one.
func TestBindEachPort(t *testing.T) {
	for _, a := range []api.Addr{0, 1, far} {
		for from := 1; from < 65536; from += 1024 {
			p := start(t, 10, 12)
			for no := from; no < min(from+1024, 65536); no++ {
				if e := p.Bind(end(a, uint16(no)), no); e != api.OK {
					t.Fatalf("Bind(%d:%d): error %d", a, no, int(e))
				}
			}
			for no := from - 1; no <= from+1024; no++ {
				want := no
				if no < from || no > 65535 || no >= from+1024 {
					want = 0
				}
				if owner, ok := p.Owner(end(a, uint16(no))); owner != want || ok != (want != 0) {
					t.Fatalf("Owner(%d:%d) = %d, %v", a, no, owner, ok)
				}
			}
		}
	}
}

// P18.1: the same end again, with the same owner or another.
func TestBindTheSameEnd(t *testing.T) {
	for _, a := range addrs() {
		p := start(t, 10, 12)
		bind(t, p, end(a, 80), 5)
		bindNot(t, p, end(a, 80), 5, api.ErrSame)
		bindNot(t, p, end(a, 80), 6, api.ErrSame)
		bindNot(t, p, end(a, 80), 0, api.ErrSame)
		owns(t, p, end(a, 80), 5)
		bind(t, p, end(a, 81), 5)
		unbind(t, p, end(a, 80), 5)
		bind(t, p, end(a, 80), 6)
		bindNot(t, p, end(a, 80), 5, api.ErrSame)
	}
}

// P18.1: a port that is bound at the address 0 can't be bound at any other, as long as it is.
func TestBindBehindTheAddress0(t *testing.T) {
	p := start(t, 10, 12)
	bind(t, p, end(0, 80), 5)
	for _, a := range addrs() {
		bindNot(t, p, end(a, 80), 5, api.ErrSame)
		bindNot(t, p, end(a, 80), 6, api.ErrSame)
	}
	bind(t, p, end(1, 81), 6)
	bind(t, p, end(1, 79), 6)
	unbind(t, p, end(0, 80), 5)
	for _, a := range addrs()[1:] {
		bind(t, p, end(a, 80), 7)
	}
	bindNot(t, p, end(0, 80), 5, api.ErrSame)
}

// P18.1: a port that is bound at any other address can't be bound at the address 0, as long as it is at one of them.
func TestBindAheadOfTheAddress0(t *testing.T) {
	p := start(t, 10, 12)
	for _, a := range addrs()[1:] {
		bind(t, p, end(a, 80), 5)
		bindNot(t, p, end(0, 80), 5, api.ErrSame)
		bindNot(t, p, end(0, 80), 6, api.ErrSame)
	}
	bind(t, p, end(0, 81), 6)
	bind(t, p, end(0, 79), 6)
	for _, a := range addrs()[1:] {
		bindNot(t, p, end(0, 80), 6, api.ErrSame)
		unbind(t, p, end(a, 80), 5)
	}
	bind(t, p, end(0, 80), 6)
	bindNot(t, p, end(1, 80), 5, api.ErrSame)
}

// P18.1: one owner with many ends.
func TestBindOneOwner(t *testing.T) {
	p := start(t, 10, 12)
	for _, a := range addrs()[1:] {
		for _, no := range ports()[1:] {
			bind(t, p, end(a, no), 5)
		}
	}
	unbind(t, p, end(2, 80), 5)
	for _, a := range addrs()[1:] {
		for _, no := range ports()[1:] {
			if a != 2 || no != 80 {
				owns(t, p, end(a, no), 5)
			}
		}
	}
	ownsNot(t, p, end(2, 80))
}

// P18.1: MaxBound ends are bound, at one address or at one port or at both, and no more.
func TestBindMaxBound(t *testing.T) {
	places := []func(i int) api.End{
		func(i int) api.End { return end(0, uint16(1+i)) },
		func(i int) api.End { return end(1, uint16(65535-i)) },
		func(i int) api.End { return end(api.Addr(1+i), 80) },
		func(i int) api.End { return end(api.Addr(1+i%32), uint16(1+i/32)) },
	}
	for k, place := range places {
		p := start(t, 10, 12)
		for i := range 1024 {
			if e := p.Bind(place(i), i); e != api.OK {
				t.Fatalf("%d: Bind(%v): error %d", k, place(i), int(e))
			}
			counts(t, p, i+1, 0)
		}
		bindNot(t, p, place(1024), 5, api.ErrFull)
		bindNot(t, p, end(1<<31, 2000), 5, api.ErrFull)
		bindNot(t, p, end(0, 2000), 5, api.ErrFull)
		for i := range 1024 {
			owns(t, p, place(i), i)
		}
		// One that is removed makes room for one.
		unbindNot(t, p, place(700), 701, api.ErrNone)
		bindNot(t, p, place(1024), 5, api.ErrFull)
		unbind(t, p, place(700), 700)
		bind(t, p, place(1024), 5)
		bindNot(t, p, place(700), 700, api.ErrFull)
		counts(t, p, 1024, 0)
	}
}

// P18.1: connections take no room of bindings.
func TestBindBesideConnections(t *testing.T) {
	p := start(t, 10, 12)
	for i := range 1024 {
		if e := p.Join(quad(1, 80, api.Addr(i), 70), i); e != api.OK {
			t.Fatalf("Join number %d: error %d", i, int(e))
		}
	}
	bind(t, p, end(1, 80), 5)
	for i := 1; i < 1024; i++ {
		if e := p.Bind(end(0, uint16(1000+i)), i); e != api.OK {
			t.Fatalf("Bind number %d: error %d", i, int(e))
		}
	}
	bindNot(t, p, end(0, 5000), 5, api.ErrFull)
	counts(t, p, 1024, 1024)
}

// P18.1: of several faults the first one is told: a port of 0 ahead of one that is bound, and that ahead of a full table.
func TestBindSeveralFaults(t *testing.T) {
	p := start(t, 10, 12)
	for i := range 1024 {
		e := end(api.Addr(i%2*5), uint16(1+i))
		if err := p.Bind(e, i); err != api.OK {
			t.Fatalf("Bind(%v): error %d", e, int(err))
		}
	}
	for _, a := range addrs() {
		bindNot(t, p, end(a, 0), 5, api.ErrRange)
		bindNot(t, p, end(a, 81), 5, api.ErrSame)
		bindNot(t, p, end(a, 2000), 5, api.ErrFull)
	}
	bindNot(t, p, end(0, 82), 5, api.ErrSame)
	bindNot(t, p, end(5, 82), 5, api.ErrSame)
	bindNot(t, p, end(6, 82), 5, api.ErrFull)
}

// P18.1: a call that is refused leaves no trace: what was bound can be unbound, and what was not bound can be bound at the address 0.
func TestBindRefusedChangesNothing(t *testing.T) {
	p := start(t, 10, 12)
	bind(t, p, end(0, 80), 5)
	for _, a := range addrs() {
		bindNot(t, p, end(a, 80), 6, api.ErrSame)
		unbindNot(t, p, end(a, 80), 6, api.ErrNone)
		bindNot(t, p, end(a, 0), 6, api.ErrRange)
		unbindNot(t, p, end(a, 0), 6, api.ErrNone)
	}
	unbind(t, p, end(0, 80), 5)
	bind(t, p, end(1, 80), 5)
	bindNot(t, p, end(1, 80), 6, api.ErrSame)
	bindNot(t, p, end(0, 80), 6, api.ErrSame)
	unbindNot(t, p, end(0, 80), 6, api.ErrNone)
	unbind(t, p, end(1, 80), 5)
	bind(t, p, end(0, 80), 6)
	for i := range 1023 {
		bind(t, p, end(1, uint16(100+i)), i)
	}
	bindNot(t, p, end(1, 5000), 6, api.ErrFull)
	unbindNot(t, p, end(1, 5000), 6, api.ErrNone)
	unbind(t, p, end(0, 80), 6)
	bind(t, p, end(0, 5000), 7)
}

// P18.1: the right owner removes a binding, and no other does.
func TestUnbind(t *testing.T) {
	p := start(t, 10, 12)
	bind(t, p, end(1, 80), 5)
	bind(t, p, end(2, 80), 6)
	bind(t, p, end(1, 81), 6)
	for _, owner := range []int{0, 1, 6, -5, 5 + 1<<32, math.MinInt, math.MaxInt} {
		unbindNot(t, p, end(1, 80), owner, api.ErrNone)
	}
	unbindNot(t, p, end(3, 80), 5, api.ErrNone)
	unbindNot(t, p, end(0, 80), 5, api.ErrNone)
	unbindNot(t, p, end(1, 82), 5, api.ErrNone)
	unbind(t, p, end(1, 80), 5)
	ownsNot(t, p, end(1, 80))
	owns(t, p, end(2, 80), 6)
	owns(t, p, end(1, 81), 6)
	unbindNot(t, p, end(1, 80), 5, api.ErrNone)
	unbind(t, p, end(2, 80), 6)
	unbind(t, p, end(1, 81), 6)
	counts(t, p, 0, 0)
}

// P18.1: an end that is not bound is not bound to the owner 0 either.
func TestUnbindNobodysEnd(t *testing.T) {
	p := start(t, 10, 12)
	for _, a := range addrs() {
		for _, no := range ports() {
			for _, owner := range []int{0, 1, -1, math.MinInt, math.MaxInt} {
				if e := p.Unbind(end(a, no), owner); e != api.ErrNone {
					t.Errorf("Unbind(%d:%d, %d): error %d", a, no, owner, int(e))
				}
			}
		}
	}
	counts(t, p, 0, 0)
	bind(t, p, end(0, 80), 0)
	unbind(t, p, end(0, 80), 0)
	unbindNot(t, p, end(0, 80), 0, api.ErrNone)
}

// P18.1: a binding at the address 0 is removed there alone, though it is what Owner tells at the others.
func TestUnbindWhatIsBoundAtTheAddress0(t *testing.T) {
	p := start(t, 10, 12)
	bind(t, p, end(0, 80), 5)
	for _, a := range addrs()[1:] {
		owns(t, p, end(a, 80), 5)
		unbindNot(t, p, end(a, 80), 5, api.ErrNone)
	}
	owns(t, p, end(1, 80), 5)
	unbind(t, p, end(0, 80), 5)
	for _, a := range addrs() {
		ownsNot(t, p, end(a, 80))
	}
}

// P18.1: connections stay when a binding of their owner goes.
func TestUnbindLeavesConnections(t *testing.T) {
	p := start(t, 10, 12)
	bind(t, p, end(1, 80), 5)
	join(t, p, quad(1, 80, 7, 70), 5)
	unbind(t, p, end(1, 80), 5)
	talks(t, p, quad(1, 80, 7, 70), 5)
	finds(t, p, quad(1, 80, 7, 70), 5, true)
	findsNot(t, p, quad(1, 80, 7, 71))
}

// P18.1: bound at the address, at the address 0, at both in turn, and at neither.
func TestOwner(t *testing.T) {
	p := start(t, 10, 12)
	ownsNot(t, p, end(1, 80))
	bind(t, p, end(1, 80), 5)
	owns(t, p, end(1, 80), 5)
	ownsNot(t, p, end(2, 80))
	ownsNot(t, p, end(0, 80))
	ownsNot(t, p, end(1, 81))
	unbind(t, p, end(1, 80), 5)
	bind(t, p, end(0, 80), 6)
	for _, a := range addrs() {
		owns(t, p, end(a, 80), 6)
		ownsNot(t, p, end(a, 81))
		ownsNot(t, p, end(a, 79))
		ownsNot(t, p, end(a, 0))
	}
	bind(t, p, end(2, 81), 7)
	owns(t, p, end(2, 80), 6)
	owns(t, p, end(2, 81), 7)
	unbind(t, p, end(0, 80), 6)
	bind(t, p, end(1, 80), 8)
	owns(t, p, end(1, 80), 8)
	ownsNot(t, p, end(2, 80))
}

// P18.1: a connection binds nothing.
func TestOwnerIsNotOfConnections(t *testing.T) {
	p := start(t, 10, 12)
	join(t, p, quad(1, 80, 7, 70), 5)
	ownsNot(t, p, end(1, 80))
	ownsNot(t, p, end(7, 70))
	bind(t, p, end(0, 80), 6)
	owns(t, p, end(1, 80), 6)
	bind(t, p, end(7, 70), 6)
}
