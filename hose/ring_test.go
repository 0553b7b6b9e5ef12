package hose

import (
	"testing"

	"towrope/api"
)

// The chapter's Ways: the bytes are in a ring, each at the place that its number tells, and the ring is as long as the capacity, however much passes.
func TestBytesAreAtTheirPlaces(t *testing.T) {
	for room := 1; room <= 8; room++ {
		h, _ := New(room)
		for step := range 200 {
			b := make([]byte, step*5%(room+3))
			for i := range b {
				b[i] = byte(h.in + i)
			}
			h.Write(b)
			if len(h.ring) != room || h.in < h.out || h.in > h.out+room {
				t.Fatalf("room %d, step %d: a ring of %d, %d in, %d out", room, step, len(h.ring), h.in, h.out)
			}
			for no := h.out; no < h.in; no++ {
				if got := h.ring[no%room]; got != byte(no) {
					t.Fatalf("room %d, step %d: byte %d is %d", room, step, no, got)
				}
			}
			h.Drop(step % (room + 1))
		}
	}
}

// What passes unseen needs no memory of its own: otherwise a long stream would make a lot of it.
func TestWriteAndDropMakeNoMemory(t *testing.T) {
	h, _ := New(api.MaxHose)
	b := make([]byte, 1500)
	step := func() {
		h.Write(b)
		h.Drop(h.Len() - 700)
		h.Room()
		h.Passed()
		h.Peek(h.Len(), 9)
		h.Read(0)
	}
	if n := testing.AllocsPerRun(2000, step); n != 0 {
		t.Errorf("%v allocations for each step", n)
	}
}

// Peek makes no more memory than it answers, and so none that shows bytes which were not asked for.
func TestPeekMakesWhatItAnswers(t *testing.T) {
	h, _ := New(100)
	h.Write(make([]byte, 100))
	for n := range 110 {
		if b := h.Peek(0, n); cap(b) != len(b) {
			t.Errorf("Peek(0, %d): a capacity of %d", n, cap(b))
		}
	}
}
