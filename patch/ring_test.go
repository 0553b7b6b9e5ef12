package patch

import (
	"slices"
	"testing"

	"towrope/api"
)

// check compares how a patch keeps its bytes with the chapter's Ways: the ranges in order, with gaps between them and within the positions, and each byte at the place of the ring that its index tells.
func check(t *testing.T, p *Patch, room int) {
	t.Helper()
	if len(p.ring) != room {
		t.Fatalf("room %d: a ring of %d", room, len(p.ring))
	}
	at := p.moved - 1
	for _, r := range p.ranges {
		if r.from <= at || r.to <= r.from || r.to > p.moved+room {
			t.Fatalf("room %d, %d moved: the ranges %v", room, p.moved, p.ranges)
		}
		at = r.to
		for index := r.from; index < r.to; index++ {
			if got := p.ring[index%room]; got != byte(index) {
				t.Fatalf("room %d: byte %d is %d", room, index, got)
			}
		}
	}
}

func TestBytesAreAtTheirPlaces(t *testing.T) {
	for room := 1; room <= 12; room++ {
		p, _ := New(room)
		for step := range 500 {
			at := step*7%(room+3) - 1
			b := make([]byte, step*5%4+step%37/36*room)
			for i := range b {
				b[i] = byte(p.moved + at + i)
			}
			p.Put(at, b)
			check(t, p, room)
			p.Take(step % 3)
			check(t, p, room)
		}
		if p.moved < 50 {
			t.Error(room, p.moved)
		}
	}
}

// The iterators end when the loop over them does, wherever that is.
func TestIteratorsEndWithTheirLoops(t *testing.T) {
	p, _ := New(20)
	for _, at := range []int{2, 5, 9, 14} {
		p.Put(at, []byte("ab"))
	}
	ranges := []span{{2, 4}, {5, 7}, {9, 11}, {14, 16}}
	gaps := []span{{0, 2}, {4, 5}, {7, 9}, {11, 14}, {16, 20}}
	for most := range 7 {
		var visited, between []span
		for r := range p.visit(p.all()) {
			if len(visited) == most {
				break
			}
			visited = append(visited, r)
		}
		for g := range p.gaps(p.all()) {
			if len(between) == most {
				break
			}
			between = append(between, g)
		}
		if !slices.Equal(visited, ranges[:min(most, 4)]) || !slices.Equal(between, gaps[:min(most, 5)]) {
			t.Errorf("at most %d: the ranges %v, the gaps %v", most, visited, between)
		}
	}
}

// The ranges that a piece overlaps or touches are visited, and no others.
func TestVisitOfPartOfTheRanges(t *testing.T) {
	p, _ := New(20)
	for _, at := range []int{2, 5, 9, 14} {
		p.Put(at, []byte("ab"))
	}
	for from := range 20 {
		for to := from; to <= 20; to++ {
			var got, want []span
			for r := range p.visit(span{from, to}) {
				got = append(got, r)
			}
			for _, r := range p.ranges {
				if r.to >= from && r.from <= to {
					want = append(want, r)
				}
			}
			if !slices.Equal(got, want) {
				t.Errorf("from %d to %d: %v, not %v", from, to, got, want)
			}
		}
	}
}

// What is stored already, or lies at no position, needs no memory of its own, and what only lengthens a range does not either.
func TestPutMakesNoMemoryForWhatIsThere(t *testing.T) {
	p, _ := New(api.MaxHose)
	b := make([]byte, 1500)
	p.Put(0, b)
	p.Put(3000, b)
	p.Put(9000, b)
	n := 0
	step := func() {
		p.Put(0, b)
		p.Put(2999, b)
		p.Put(9000+n, b)
		p.Put(api.MaxHose, b)
		p.Put(-1500, b)
		p.Take(0)
		p.Ready()
		p.Len()
		p.Moved()
		n += 100
	}
	if n := testing.AllocsPerRun(2000, step); n != 0 {
		t.Errorf("%v allocations for each step", n)
	}
}
