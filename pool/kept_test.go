package pool

import (
	"slices"
	"testing"

	"towrope/api"
)

// check compares how a group keeps its buffers with the chapter's Ways: the map has all of them, and the list of the free ones has each that is free once.
func check(t *testing.T, p *Pool, no int) {
	t.Helper()
	g := &p.groups[no]
	free := 0
	for id, b := range g.buffers {
		if id < 0 || id >= 65536 || b.size < 1 || b.size > api.MaxBuf {
			t.Fatalf("group %d: the buffer %d is %v", no, id, b)
		}
		switch b.state {
		case 1:
			free++
			if !slices.Contains(g.free, id) {
				t.Fatalf("group %d: %d is free, and not in %v", no, id, g.free)
			}
		case 2:
			if slices.Contains(g.free, id) {
				t.Fatalf("group %d: %d is out, and in %v", no, id, g.free)
			}
		default:
			t.Fatalf("group %d: the buffer %d is %v", no, id, b)
		}
	}
	if free != len(g.free) || len(g.buffers) > api.MaxBufs {
		t.Fatalf("group %d: %d free of %d, and the list %v", no, free, len(g.buffers), g.free)
	}
}

// The chapter's Ways: as many groups as there may be, in an array.
func TestGroupsAreAnArray(t *testing.T) {
	var groups [api.MaxGroups]group = New().groups
	for no := range groups {
		if groups[no].buffers == nil || len(groups[no].buffers) != 0 || len(groups[no].free) != 0 {
			t.Errorf("group %d: %v", no, groups[no])
		}
	}
}

// The chapter's Ways: the map and the list tell the same after every call.
func TestMapAndListTellTheSame(t *testing.T) {
	p := New()
	seed := uint64(1)
	next := func(n int) int {
		seed = seed*6364136223846793005 + 1442695040888963407
		return int(seed>>33) % n
	}
	for range 20000 {
		no := next(2) * 15
		switch next(8) {
		case 0:
			p.Remove(no, next(9))
		case 1, 2:
			p.Provide(no, next(60), 1+next(9), 1+next(api.MaxBuf))
		case 3, 4, 5:
			p.Take(no)
		default:
			p.Give(no, next(60))
		}
		check(t, p, no)
	}
}

// What is removed is kept no longer, and however many are taken and given back, the list of the free ones has room for about as many as there may be.
func TestNothingIsKeptOfWhatIsGone(t *testing.T) {
	p := New()
	for round := range 40 {
		for first := 0; first < 65536; first += 1024 {
			p.Provide(5, first, 1024, 1+round)
			for range 300 {
				id, _, _ := p.Take(5)
				p.Give(5, id)
			}
			p.Remove(5, 1024)
		}
		if g := &p.groups[5]; len(g.buffers) != 0 || len(g.free) != 0 || cap(g.free) > 4*api.MaxBufs {
			t.Fatalf("round %d: %d buffers, %d free, room for %d", round, len(g.buffers), len(g.free), cap(g.free))
		}
	}
	p.Provide(5, 0, 1, 1)
	check(t, p, 5)
}
