package port_test

import (
	"testing"

	"towrope/api"
	"towrope/port"
)

// binds binds what Pick returned: that is done while fewer than MaxBound ends are bound, and refused with ErrFull alone then.
func binds(t *testing.T, p *port.Table, a api.Addr, owner int) (no uint16, done bool) {
	t.Helper()
	no, e := p.Pick(a)
	if e != api.OK {
		if no != 0 || e != api.ErrFull {
			t.Fatalf("Pick(%d) = %d, error %d", a, no, int(e))
		}
		return 0, false
	}
	want := api.OK
	if bound, _ := p.Len(); bound >= 1024 {
		want = api.ErrFull
	}
	if e := p.Bind(end(a, no), owner); e != want {
		t.Fatalf("Pick(%d) = %d, and Bind: error %d, not %d", a, no, int(e), int(want))
	}
	return no, want == api.OK
}

// P18.4: over long runs of calls each port that Pick returns can be bound while fewer than MaxBound ends are bound.
func TestPickedCanBeBound(t *testing.T) {
	for seed := range uint64(48) {
		next := chance(seed)
		addrs := 1 + int(seed%4)
		low := 1 + int(seed%5)*13000
		ports := 1 << (seed % 12)
		p := start(t, low, low+ports-1)
		picked := 0
		for range 6000 {
			e := end(api.Addr(next(addrs)), uint16(low+next(ports)))
			switch next(8) {
			case 0:
				p.Bind(e, next(3))
			case 1, 2, 3:
				p.Unbind(e, next(3))
			case 4:
				p.Join(api.Quad{Local: e, Remote: end(7, 70)}, next(3))
			case 5:
				p.Part(api.Quad{Local: e, Remote: end(7, 70)})
			default:
				if _, ok := binds(t, p, e.Addr, next(3)); ok {
					picked++
				}
			}
		}
		if picked < 50 {
			t.Errorf("seed %d: %d were picked and bound", seed, picked)
		}
	}
}

// P18.4: where Pick returns none, none of its ports can be bound; and no port is returned that could not be.
func TestPickedIsAnyThatCanBeBound(t *testing.T) {
	for seed := range uint64(40) {
		next := chance(seed)
		p := start(t, 20, 25)
		none := 0
		for range 1500 {
			e := end(api.Addr(next(3)), uint16(20+next(6)))
			if next(3) > 0 {
				p.Bind(e, 1)
			} else {
				p.Unbind(e, 1)
			}
			a := api.Addr(next(4))
			no, err := p.Pick(a)
			for try := uint16(20); try <= 25; try++ {
				done := p.Bind(end(a, try), 9)
				if done == api.OK {
					p.Unbind(end(a, try), 9)
				}
				if (try == no && done != api.OK) || (err != api.OK && done != api.ErrSame) {
					t.Fatalf("Pick(%d) = %d, error %d, and Bind of %d: error %d", a, no, int(err), try, int(done))
				}
			}
			if err != api.OK {
				none++
			}
		}
		if none == 0 {
			t.Errorf("seed %d: one was picked each time", seed)
		}
	}
}

// P18.4: ports are picked and bound until MaxBound ends are, and picked on when none can be bound any more.
func TestPickedUntilFull(t *testing.T) {
	for _, a := range []api.Addr{0, 1, far} {
		p := start(t, 60000, 65535)
		for i := range 1024 {
			if no, ok := binds(t, p, a, i); no != uint16(60000+i) || !ok {
				t.Fatalf("number %d: %d, %v", i, no, ok)
			}
		}
		for i := range 5000 {
			if no, ok := binds(t, p, a, i); no != uint16(61024+i%4512) || ok {
				t.Fatalf("number %d of a full table: %d, %v", i, no, ok)
			}
		}
		unbind(t, p, end(a, 60007), 7)
		if no, ok := binds(t, p, a, 5); no != 61024+5000-4512 || !ok {
			t.Fatalf("behind an Unbind: %d, %v", no, ok)
		}
	}
}

// P18.4: a connection takes precedence over a binding, of the address and of the address 0, whichever came first.
func TestConnectionAheadOfBinding(t *testing.T) {
	q := quad(1, 80, 7, 70)
	for _, a := range []api.Addr{0, 1} {
		p := start(t, 10, 12)
		bind(t, p, end(a, 80), 5)
		join(t, p, q, 6)
		finds(t, p, q, 6, true)
		r := start(t, 10, 12)
		join(t, r, q, 6)
		bind(t, r, end(a, 80), 5)
		finds(t, r, q, 6, true)
		part(t, r, q)
		finds(t, r, q, 5, false)
	}
}

// P18.4: over long runs of calls, what comes goes to the owner of the connection wherever there is one.
func TestConnectionsAheadOfBindings(t *testing.T) {
	for seed := range uint64(40) {
		next := chance(seed)
		p := start(t, 10, 12)
		byQuad, byEnd := 0, 0
		for range 2000 {
			q := quad(api.Addr(next(3)), uint16(10+next(2)), api.Addr(next(2)), 70)
			switch next(5) {
			case 0:
				p.Bind(q.Local, 100+next(3))
			case 1:
				p.Unbind(q.Local, 100+next(3))
			case 2, 3:
				p.Join(q, next(3))
			default:
				p.Part(q)
			}
			owner, ok := p.Talks(q)
			if ok {
				finds(t, p, q, owner, true)
				byQuad++
			} else if owner, ok = p.Owner(q.Local); ok {
				finds(t, p, q, owner, false)
				byEnd++
			} else {
				findsNot(t, p, q)
			}
		}
		if byQuad < 100 || byEnd < 100 {
			t.Errorf("seed %d: %d by a connection and %d by a binding", seed, byQuad, byEnd)
		}
	}
}
