package port

import (
	"testing"

	"towrope/api"
)

// check compares how a table counts the uses of its ports with what is bound.
func check(t *testing.T, p *Table) {
	t.Helper()
	uses := map[uint16]int{}
	for e := range p.bound {
		uses[e.Port]++
	}
	if len(uses) != len(p.uses) {
		t.Fatalf("%d ports are bound, and %d are counted", len(uses), len(p.uses))
	}
	for no, n := range uses {
		if p.uses[no] != n {
			t.Fatalf("%d is bound at %d addresses, and %d are counted", no, n, p.uses[no])
		}
	}
	if len(p.bound) > api.MaxBound || len(p.joined) > api.MaxBound || p.next < p.low || p.next > p.high {
		t.Fatalf("%d bound, %d joined, next %d of %d to %d", len(p.bound), len(p.joined), p.next, p.low, p.high)
	}
}

// The chapter's Ways: ends and quads themselves are the keys of maps.
func TestEndsAndQuadsAreKeys(t *testing.T) {
	p, _ := New(10, 12)
	e := api.End{Addr: 1, Port: 80}
	q := api.Quad{Local: e, Remote: api.End{Addr: 2, Port: 70}}
	p.Bind(e, 5)
	p.Join(q, 6)
	var bound map[api.End]int = p.bound
	var joined map[api.Quad]int = p.joined
	if len(bound) != 1 || bound[e] != 5 || len(joined) != 1 || joined[q] != 6 {
		t.Errorf("%v, %v", bound, joined)
	}
}

// The chapter's Ways: the maps tell the same after every call.
func TestMapsTellTheSame(t *testing.T) {
	p, _ := New(10, 20)
	seed := uint64(1)
	next := func(n int) int {
		seed = seed*6364136223846793005 + 1442695040888963407
		return int(seed>>33) % n
	}
	for range 30000 {
		e := api.End{Addr: api.Addr(next(4)), Port: uint16(9 + next(14))}
		q := api.Quad{Local: e, Remote: api.End{Port: uint16(next(5))}}
		switch next(5) {
		case 0:
			p.Bind(e, next(2))
		case 1:
			p.Unbind(e, next(2))
		case 2:
			p.Pick(e.Addr)
		case 3:
			p.Join(q, next(2))
		default:
			p.Part(q)
		}
		check(t, p)
	}
}

// What is removed is kept no longer.
func TestNothingIsKeptOfWhatIsGone(t *testing.T) {
	p, _ := New(1, 65535)
	for no := 1; no < 65536; no++ {
		e := api.End{Addr: api.Addr(no % 3), Port: uint16(no)}
		q := api.Quad{Local: e, Remote: e}
		p.Bind(e, no)
		p.Join(q, no)
		p.Unbind(e, no)
		p.Part(q)
	}
	if len(p.bound) != 0 || len(p.joined) != 0 || len(p.uses) != 0 {
		t.Errorf("%d bound, %d joined, %d ports counted", len(p.bound), len(p.joined), len(p.uses))
	}
}
